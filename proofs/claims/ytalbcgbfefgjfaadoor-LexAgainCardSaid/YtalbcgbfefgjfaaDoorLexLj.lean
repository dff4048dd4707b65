
/-
  THE LAW LexJoins: its walk.
-/
import Derived.Test.YtalbcgbfefgjfaaDoorLexJs
import Derived.Test.YtalbcgbfefgjfaaDoorLexLr
import Derived.Test.YtalbcgbfefgjfaaDoorLexRt
import Derived.Test.YtalbcgbfefgjfaaDoorLexOp
import Derived.Test.YtalbcgbfefgjfaaDoorShelf
import Derived.Maps.AppendAt
namespace Go.Proofs.YtalbcgbfefgjfaaDoor
open Go Go.RowKit

/-- Two slices lie in blocks of their own. -/
def Apart (u v : Value) : Prop := ∀ g, u.ownBlock = some g → v.ownBlock ≠ some g
theorem Apart.off {u v : Value} (h : Apart u v) : v.ownBlock = none ∨ v.ownBlock ≠ u.ownBlock := by
  cases hv : v.ownBlock with
  | none => exact Or.inl rfl
  | some g => exact Or.inr (fun e => h g e.symm hv)
theorem own_lt {X : World} {base n size : Nat} {e : TypeId} {v : Value} {xs : List Value} (h : X.ownsRow base e size v n xs) {g : Nat} (hg : v.ownBlock = some g) : base ≤ g ∧ g < X.heap.size := by
  rcases h.2 with ⟨rfl, _⟩ | ⟨g', cap, cur, rfl, hb, hgg, _⟩
  · simp [Value.ownBlock] at hg
  · simp [Value.ownBlock] at hg
    subst hg
    exact ⟨hb, (Array.getElem?_eq_some_iff.1 hgg).1⟩
theorem apart_first {X Y : World} {b1 b2 n1 n2 s1 s2 : Nat} {e1 e2 : TypeId} {u v : Value} {xs ys : List Value} (h1 : X.ownsRow b1 e1 s1 u n1 xs) (h2 : Y.ownsRow b2 e2 s2 v n2 ys) (hb : X.heap.size ≤ b2) : Apart u v :=
  fun g hu hv => by have := own_lt h1 hu; have := own_lt h2 hv; omega
theorem Apart.next {X : World} {base n size : Nat} {e : TypeId} {u u' v : Value} {xs : List Value} (h : Apart u v) (hv : X.ownsRow base e size v n xs) (hd : u'.ownBlock = u.ownBlock ∨ u'.ownBlock = some X.heap.size) : Apart u' v :=
  fun g hu hg => by
    rcases hd with hd | hd
    · exact h g (hd ▸ hu) hg
    · have := own_lt hv hg
      rw [hd] at hu
      have := Option.some.inj hu
      omega

theorem list_at {α : Type} {xs : List α} {k : Nat} (h : k < xs.length) : ∃ x, xs[k]? = some x := ⟨_, List.getElem?_eq_getElem h⟩
theorem take_snocT {xs : List TokR} {k : Nat} {x : TokR} (h : xs[k]? = some x) : xs.take (k + 1) = xs.take k ++ [x] := by
  rw [List.take_add_one, h]; rfl

set_option maxRecDepth 100000 in
set_option maxHeartbeats 4000000 in
theorem law_lexJoins (a b : ByteArray) (w : World) (L : LibOk w) (_ : a.size ≤ 9223372036854775807) (_ : b.size ≤ 9223372036854775807) : Calls Tryd.prog 11 #[.string a, .string b] w (Gives w (.bool true)) := by
  have HL := Lib.hid L
  have HB0 := Lib.hid (Below.refl w.heap.size w)
  clear L
  by_cases h1 : 1500 < a.size
  · go_enter Tryd.func11, Tryd.ntmps11
    go_wp2_with (first
      | (go_at_call 19; refine (awake_any _ HL.out).mono ?_; rintro e w1 ⟨rfl, hb⟩; have HB := Lib.hid hb; clear hb))
    go_returns
    exact ⟨rfl, HB.out⟩
  · by_cases h2 : 1500 < b.size
    · go_enter Tryd.func11, Tryd.ntmps11
      go_wp2_with (first
        | (go_at_call 19; refine (awake_any _ HL.out).mono ?_; rintro e w1 ⟨rfl, hb⟩; have HB := Lib.hid hb; clear hb))
      go_returns
      exact ⟨rfl, HB.out⟩
    · have ha : a.size ≤ 1500 := by omega
      have hb' : b.size ≤ 1500 := by omega
      clear h1 h2
      have hla := length_toList a
      have hlb := length_toList b
      obtain ⟨c, hc⟩ : ∃ c, feeds a.toList = c := ⟨_, rfl⟩
      have hc5 : c ≤ 1500 := by have := feeds_le a.toList; omega
      have hj := read_join a.toList b.toList (by omega) (by omega)
      have hcat : (a ++ (⟨#[10]⟩ : ByteArray) ++ b).toList = a.toList ++ 10 :: b.toList := by
        rw [toList_append, toList_append, feed_one, List.append_assoc]; rfl
      have hcs : (a ++ (⟨#[10]⟩ : ByteArray) ++ b).size ≤ 140737488355328 := by
        rw [ByteArray.size_append, ByteArray.size_append]; have : (⟨#[10]⟩ : ByteArray).size = 1 := rfl; omega
      rw [← hcat, hc] at hj
      have hfa := readL_fine (l := a.toList) (by omega)
      have hfb := readL_fine (l := b.toList) (by omega)
      have hcb : (Lib.countByte a.data.toList 10 : Nat) = c := by rw [← ByteArray.toList_eq]; exact hc
      have HCB := Lib.hid hcb
      have HCS := Lib.hid hcs
      have HSA := Lib.hid (show a.size ≤ 140737488355328 by omega)
      have HSB := Lib.hid (show b.size ≤ 140737488355328 by omega)
      rw [hla] at hfa
      rw [hlb] at hfb
      obtain ⟨rb, hrb⟩ : ∃ rb, readL b.toList = rb := ⟨_, rfl⟩
      have HRB := Lib.hid hrb
      rw [hrb] at hj hfb
      clear hla hlb hc hcat hcs hcb hrb
      cases hra : readL a.toList with
      | no i e =>
        rw [hra] at hj hfa
        have HRA := Lib.hid hra
        have HJ := Lib.hid (show readL (a ++ (⟨#[10]⟩ : ByteArray) ++ b).toList = .no i e from hj)
        have he := hfa.2
        clear hj hra hfa hfb
        rcases he with rfl | rfl
        all_goals
          go_enter Tryd.func11, Tryd.ntmps11
          go_wp2_with (first
            | (have K := HRA.out; go_at_call 24; refine (tokens_reads _ _ HL.out.len HSA.out).mono ?_; rw [K]; clear HRA K; rintro e w1 ⟨q1, c1, rfl, hrow, hb⟩; have HB1 := Lib.hid hb; simp only [Rd.toks, Rd.line, Rd.err, List.length_nil]; clear hrow hb)
            | (have K := HRB.out; go_at_call 24; refine (tokens_reads _ _ (HL.out.below HB1.out).len HSB.out).mono ?_; rw [K]; clear HRB K; rintro e w2 ⟨q2, c2, rfl, hrow, hb⟩; have HB2 := Lib.hid (after HB1.out hb); clear hrow hb; generalize rb.toks.length = nn; generalize rb.line = ll; generalize rb.err = ee)
            | (have K := HJ.out; go_at_call 24; refine (tokens_reads _ _ (HL.out.below HB2.out).len HCS.out).mono ?_; rw [K]; clear HJ K; rintro e w3 ⟨q3, c3, rfl, hrow, hb⟩; have HB3 := Lib.hid (after HB2.out hb); simp only [Rd.toks, Rd.line, Rd.err, List.length_nil]; clear hrow hb)
            | (go_at_call 19; refine (awake_any _ (HL.out.below HB3.out)).mono ?_; rintro e w4 ⟨rfl, hb⟩; have HB4 := Lib.hid (after HB3.out hb); clear hb))
          go_returns
          exact ⟨rfl, HB4.out⟩
      | ok xs =>
        rw [hra] at hj hfa
        have HRA := Lib.hid hra
        obtain ⟨nx, hnx⟩ : ∃ nx, xs.length = nx := ⟨_, rfl⟩
        have hnx5 : nx ≤ 1500 := by have := hfa.1; rw [List.length_nil] at this; omega
        have HNX := Lib.hid hnx
        clear hra hnx hfa
        cases rb with
        | no j e =>
          have HJ := Lib.hid (show readL (a ++ (⟨#[10]⟩ : ByteArray) ++ b).toList = .no (j + (c + 1)) e from hj)
          have he := hfb.2
          have hj5 : j ≤ 1501 := by have := hfb.1; omega
          have hji : ((j + (c + 1) : Nat) : Int) = (j : Int) + ((c : Int) + 1) := by omega
          have HJI := Lib.hid hji
          clear hj hfb hji
          rcases he with rfl | rfl
          all_goals
            go_enter Tryd.func11, Tryd.ntmps11
            go_wp2_with (first
              | (have K := HRA.out; go_at_call 24; refine (tokens_reads _ _ HL.out.len HSA.out).mono ?_; rw [K]; clear HRA K; rintro e w1 ⟨q1, c1, rfl, hrow, hb⟩; have HB1 := Lib.hid hb; simp only [Rd.toks, Rd.line, Rd.err, HNX.out]; clear hrow hb)
              | (have K := HRB.out; go_at_call 24; refine (tokens_reads _ _ (HL.out.below HB1.out).len HSB.out).mono ?_; rw [K]; clear HRB K; rintro e w2 ⟨q2, c2, rfl, hrow, hb⟩; have HB2 := Lib.hid (after HB1.out hb); simp only [Rd.toks, Rd.line, Rd.err, List.length_nil]; clear hrow hb)
              | (have K := HJ.out; go_at_call 24; refine (tokens_reads _ _ (HL.out.below HB2.out).len HCS.out).mono ?_; rw [K]; clear HJ K; rintro e w3 ⟨q3, c3, rfl, hrow, hb⟩; have HB3 := Lib.hid (after HB2.out hb); simp only [Rd.toks, Rd.line, Rd.err, List.length_nil, HJI.out]; clear hrow hb)
              | (go_at_call 32; refine (Tryd.strings_Count_one _ _ _).mono ?_; rw [HCB.out]; rintro _ _ ⟨rfl, rfl⟩)
              | (go_at_call 19; refine (awake_any _ (HL.out.below HB3.out)).mono ?_; rintro e w4 ⟨rfl, hb⟩; have HB4 := Lib.hid (after HB3.out hb); clear hb))
            go_returns
            exact ⟨rfl, HB4.out⟩
        | ok ys =>
          have HJ := Lib.hid (show readL (a ++ (⟨#[10]⟩ : ByteArray) ++ b).toList = .ok (xs ++ ys.map (bump (c + 1))) from hj)
          obtain ⟨ny, hny⟩ : ∃ ny, ys.length = ny := ⟨_, rfl⟩
          have hny5 : ny ≤ 1500 := by have := hfb.1; rw [List.length_nil] at this; omega
          have HNY := Lib.hid hny
          have HNZ := Lib.hid (show (xs ++ ys.map (bump (c + 1))).length = nx + ny by rw [List.length_append, List.length_map, HNX.out, hny])
          have HLN := Lib.hid (fun (k : Nat) (x : TokR) (hx : ys[k]? = some x) => show 1 ≤ x.l ∧ x.l ≤ 1501 by
            have := (hfb.2 x (List.mem_of_getElem? hx)).resolve_left (by simp)
            omega)
          clear hj hfb hny
          go_enter Tryd.func11, Tryd.ntmps11
          go_wp2_with (first
            | (have K := HRA.out; go_at_call 24; refine (tokens_reads _ _ HL.out.len HSA.out).mono ?_; rw [K]; clear HRA K; rintro e w1 ⟨q1, c1, rfl, hrow, hb⟩; have HB1 := Lib.hid hb; simp only [Rd.toks, HNX.out] at hrow; have HR1 := Lib.hid hrow; simp only [Rd.toks, Rd.line, Rd.err, HNX.out]; clear hrow hb)
            | (have K := HRB.out; go_at_call 24; refine (tokens_reads _ _ (HL.out.below HB1.out).len HSB.out).mono ?_; rw [K]; clear HRB K; rintro e w2 ⟨q2, c2, rfl, hrow, hb⟩; have HB12 := Lib.hid hb; have HB2 := Lib.hid (after HB1.out hb); simp only [Rd.toks, HNY.out] at hrow; have HR2 := Lib.hid hrow; simp only [Rd.toks, Rd.line, Rd.err, HNY.out]; clear hrow hb)
            | (have K := HJ.out; go_at_call 24; refine (tokens_reads _ _ (HL.out.below HB2.out).len HCS.out).mono ?_; rw [K]; clear HJ K; rintro e w3 ⟨q3, c3, rfl, hrow, hb⟩; have HB23 := Lib.hid hb; have HB3 := Lib.hid (after HB2.out hb); simp only [Rd.toks, HNZ.out] at hrow; have HR3 := Lib.hid hrow; simp only [Rd.toks, Rd.line, Rd.err, HNZ.out]; clear hrow hb)
            | (go_at_call 32; refine (Tryd.strings_Count_one _ _ _).mono ?_; rw [HCB.out]; rintro _ _ ⟨rfl, rfl⟩))
          have HA2 := Lib.hid (apart_first HR1.out HR2.out (Nat.le_refl _))
          have HA3 := Lib.hid (apart_first HR1.out HR3.out HB12.out.size)
          have HR1' := Lib.hid (row_below (row_below HR1.out HB12.out) HB23.out)
          have HR2' := Lib.hid (row_below HR2.out HB23.out)
          go_loopw [5, 90] (fun v i wr => ∃ (k : Nat) (p : Option Addr) (cap : Nat), k ≤ ny ∧ i = .int .i64 k ∧ v = .slice p (nx + k) cap ∧
              wr.ownsRow w.heap.size 27 4 (.slice p (nx + k) cap) (nx + k) (tokCells (xs ++ (ys.take k).map (bump (c + 1)))) ∧ wr.ownsRow w1.heap.size 27 4 (.slice q2 ny c2) ny (tokCells ys) ∧
              wr.ownsRow w2.heap.size 27 4 (.slice q3 (nx + ny) c3) (nx + ny) (tokCells (xs ++ ys.map (bump (c + 1)))) ∧ Apart (.slice p (nx + k) cap) (.slice q2 ny c2) ∧ Apart (.slice p (nx + k) cap) (.slice q3 (nx + ny) c3) ∧ Below w.heap.size w wr) (fun _ i _ => ny - (intOf i).toNat)
          case atStart => exact ⟨0, q1, c1, Nat.zero_le _, rfl, rfl, by simpa using HR1'.out, HR2'.out, HR3.out, HA2.out, HA3.out, HB3.out⟩
          case round =>
            obtain ⟨k, p, cap, hk, rfl, rfl, r1, r2, r3, a2, a3, hbel⟩ := hrel
            have R1 := Lib.hid r1
            have R2 := Lib.hid r2
            have R3 := Lib.hid r3
            have A2 := Lib.hid a2
            have A3 := Lib.hid a3
            have HW := Lib.hid hbel
            clear r1 r2 r3 a2 a3 hbel
            by_cases hlt : k < ny
            · obtain ⟨x, hx⟩ := list_at (xs := ys) (k := k) (by rw [HNY.out]; exact hlt)
              obtain ⟨hl1, hl2⟩ := HLN.out k x hx
              have HXK := Lib.hid hx
              obtain ⟨ad, hq2, hax⟩ := (toks_of_row R2.out HNY.out).2 k x hx
              subst hq2
              obtain ⟨x0, x1, x2, x3⟩ := hax
              have hblx := World.block_lt_of_cell? _ _ x0
              obtain ⟨xk, xl, xt, xn⟩ := x
              dsimp only at x0 x1 x2 x3 hl1 hl2
              obtain ⟨i0, hi, hz0, hz1, hz2⟩ := info_parts infoTok
              have hws := HW.out.size
              clear hx
              go_wp2_with (at_builtin; refine wpList_append_own_at _ rfl _ _ 24 rfl w.heap.size 27 i0 _ 4 40 Tryd.underlying24 hi hz0 hz1 hz2 rfl (by decide) _ _ _ rfl ((R1.out.alloc _).alloc _) ⟨wr.heap.size + 1, 0, none⟩ 1 1 [.int .u8 xk, .int .i64 (xl + ((c : Int) + 1)), .string xt, .int .i64 xn] rfl rfl (cells_new _ _ _ _ (by simp)) (by simp [Value.oneCell']) (by unfold maxLen; omega) (by omega) (by simp; omega) ?_; intro v' w5 hown' hgrow _ hdis; have HB5 := Lib.hid (below_append ((HW.out.alloc HW.out.size _).alloc (by simp; omega) _) (by simp; omega) ((R1.out.alloc _).alloc _) hgrow); have R2' := Lib.hid (((R2.out.alloc _).alloc _).kept hgrow A2.out.off); have R3' := Lib.hid (((R3.out.alloc _).alloc _).kept hgrow A3.out.off); have A2' := Lib.hid (A2.out.next ((R2.out.alloc _).alloc _) hdis); have A3' := Lib.hid (A3.out.next ((R3.out.alloc _).alloc _) hdis); obtain ⟨g', cap', rfl⟩ := ownsRow_succ hown'; have HO := Lib.hid hown'; clear hown' hgrow hdis)
              go_roundw
              case rel =>
                refine ⟨k + 1, some ⟨g', 0, none⟩, cap', by omega, by go_num, rfl, ?_, R2'.out, R3'.out, A2'.out, A3'.out, HB5.out⟩
                have e2 : tokCells (xs ++ (ys.take (k + 1)).map (bump (c + 1))) = tokCells (xs ++ (ys.take k).map (bump (c + 1))) ++ [.int .u8 xk, .int .i64 (xl + ((c : Int) + 1)), .string xt, .int .i64 xn] := by
                  rw [take_snocT HXK.out, List.map_append, ← List.append_assoc, tokCells_append]
                  congr 1
                rw [e2]; exact HO.out
              case measure => simp [intOf]; omega
            · obtain rfl : k = ny := by omega
              have HT1 := Lib.hid (toks_of_row R1.out (by rw [List.length_append, List.length_map, List.length_take, HNX.out, HNY.out, Nat.min_self]))
              have HT3 := Lib.hid (toks_of_row R3.out HNZ.out)
              have HTK := Lib.hid (show ys.take k = ys by rw [← HNY.out, List.take_length])
              go_wp2_with (first
                | (go_at_call 26; refine (equal_any _ _ _ _ _ _ _ _ _ HT1.out HT3.out (by omega) (by omega)).mono ?_; rw [HTK.out, eq_refl]; rintro e w5 ⟨rfl, hb⟩; have HB5 := Lib.hid (after HW.out hb); clear hb)
                | (go_at_call 19; refine (awake_any _ (HL.out.below HB5.out)).mono ?_; rintro e w6 ⟨rfl, hb⟩; have HB6 := Lib.hid (after HB5.out hb); clear hb))
              go_returns
              exact ⟨rfl, HB6.out⟩

end Go.Proofs.YtalbcgbfefgjfaaDoor
