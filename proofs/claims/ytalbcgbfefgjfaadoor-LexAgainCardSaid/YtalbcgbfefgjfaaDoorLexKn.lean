
/-
  THE LAWS' OWN known: the tokens that exist.
-/
import Derived.Test.YtalbcgbfefgjfaaDoorLexB2
import Derived.Test.YtalbcgbfefgjfaaDoorLexLj
import Derived.Test.YtalbcgbfefgjfaaDoorLexS
namespace Go.Proofs.YtalbcgbfefgjfaaDoor
open Go Go.RowKit

/-- A call hands back these tokens, in a row of its own. -/
def OwnToks (w : World) (zs : List TokR) (e : Ending) (W : World) : Prop :=
  ∃ q cap, e = .returned (.slice q zs.length cap) ∧ W.ownsRow w.heap.size 27 4 (.slice q zs.length cap) zs.length (tokCells zs) ∧ Below w.heap.size w W

theorem filter_yes {xs : List TokR} {k : Nat} {x : TokR} (h : xs[k]? = some x) (hm : mayT x = true) : (xs.take (k + 1)).filter mayT = (xs.take k).filter mayT ++ [x] := by
  rw [take_snocT h, List.filter_append]; simp [hm]
theorem filter_no {xs : List TokR} {k : Nat} {x : TokR} (h : xs[k]? = some x) (hm : mayT x = false) : (xs.take (k + 1)).filter mayT = (xs.take k).filter mayT := by
  rw [take_snocT h, List.filter_append]; simp [hm]

set_option maxRecDepth 100000 in
set_option maxHeartbeats 4000000 in
theorem known_any (p : Option Addr) (n cp : Nat) (xs : List TokR) (w : World) (hx : Toks w p n xs) (hs : ∀ (i : Nat) (x : TokR), xs[i]? = some x → x.t.size ≤ 9223372036854775807) (hn : n ≤ 400) :
    Calls Tryd.prog 31 #[.slice p n cp] w (OwnToks w (xs.filter mayT)) := by
  have HX := Lib.hid hx
  have HS := Lib.hid hs
  obtain ⟨zs, hzs⟩ : ∃ zs, xs.filter mayT = zs := ⟨_, rfl⟩
  rw [hzs]
  have HZ := Lib.hid hzs
  clear hx hs hzs
  go_enter Tryd.func31, Tryd.ntmps31
  go_wp2
  go_loopw [3, 8] (fun v i wr => ∃ (k m : Nat) (q : Option Addr) (cap : Nat), k ≤ n ∧ i = .int .i64 k ∧ v = .slice q m cap ∧ ((xs.take k).filter mayT).length = m ∧ m ≤ k ∧
      wr.ownsRow w.heap.size 27 4 (.slice q m cap) m (tokCells ((xs.take k).filter mayT)) ∧ Below w.heap.size w wr) (fun _ i _ => n - (intOf i).toNat)
  case atStart => exact ⟨0, 0, none, 0, Nat.zero_le _, rfl, rfl, rfl, Nat.le_refl _, World.ownsRow_nil _ _ _ _, Below.refl _ _⟩
  case round =>
    obtain ⟨k, m, q, cap, hk, rfl, rfl, hm, hmk, hrow, hbel⟩ := hrel
    have HM := Lib.hid hm
    have HR := Lib.hid hrow
    have HW := Lib.hid hbel
    clear hm hrow
    by_cases hlt : k < n
    · obtain ⟨x, hx⟩ := tok_some HX.out.1 hlt
      obtain ⟨a, rfl, hax⟩ := HX.out.2 k x hx
      have HSZ := Lib.hid (HS.out k x hx)
      have HXK := Lib.hid hx
      obtain ⟨x0, x1, x2, x3⟩ := hax.below hbel
      have hblx := World.block_lt_of_cell? _ _ x0
      obtain ⟨xk, xl, xt, xn⟩ := x
      dsimp only at x0 x1 x2 x3
      have HSZ : Hid (xt.size ≤ 9223372036854775807) := HSZ
      obtain ⟨mb, hmb⟩ : ∃ mb, mayB xk xt xn = mb := ⟨_, rfl⟩
      have HMB := Lib.hid hmb
      have hal := (Below.refl wr.heap.size wr).alloc (Nat.le_refl _) (.cells #[.int .u8 xk, .int .i64 xl, .string xt, .int .i64 xn] 27)
      have HB5 := Lib.hid (after HW.out hal)
      have hT6 : TkBox wr.heap.size ⟨xk, xl, xt, xn⟩ (wr.alloc (.cells #[.int .u8 xk, .int .i64 xl, .string xt, .int .i64 xn] 27)) := World.alloc_heap_new wr _
      obtain ⟨t0, t1, t2, t3⟩ := hT6.cells
      have R5 := Lib.hid (HR.out.alloc (.cells #[.int .u8 xk, .int .i64 xl, .string xt, .int .i64 xn] 27))
      clear hx hax hmb hal hT6 hbel
      cases mb
      · go_wp2_with (go_at_call 21; refine (rmay_any _ _ _ _ _ HSZ.out).mono ?_; rw [HMB.out]; rintro e w1 ⟨rfl, hb⟩; have HB6 := Lib.hid (after HB5.out hb); have R6 := Lib.hid (row_below R5.out hb); replace t0 := keepA' hb t0; replace t1 := keepA' hb t1; replace t2 := keepA' hb t2; replace t3 := keepA' hb t3; clear hb)
        go_roundw
        case rel => exact ⟨k + 1, m, q, cap, by omega, by go_num, rfl, by rw [filter_no HXK.out HMB.out]; exact HM.out, by omega, by rw [filter_no HXK.out HMB.out]; exact R6.out, HB6.out⟩
        case measure => simp [intOf]; omega
      · obtain ⟨i0, hi, hz0, hz1, hz2⟩ := info_parts infoTok
        go_wp2_with (first
          | (go_at_call 21; refine (rmay_any _ _ _ _ _ HSZ.out).mono ?_; rw [HMB.out]; rintro e w1 ⟨rfl, hb⟩; have HB6 := Lib.hid (after HB5.out hb); have R6 := Lib.hid (row_below R5.out hb); replace t0 := keepA' hb t0; replace t1 := keepA' hb t1; replace t2 := keepA' hb t2; replace t3 := keepA' hb t3; have hws := HB6.out.size; clear hb)
          | (at_builtin; refine wpList_append_own _ rfl _ _ 24 rfl w.heap.size 27 i0 _ 4 40 Tryd.underlying24 hi hz0 hz1 hz2 rfl (by decide) _ _ _ rfl (R6.out.alloc _) ⟨w1.heap.size, 0, none⟩ 1 1 [.int .u8 xk, .int .i64 xl, .string xt, .int .i64 xn] rfl rfl (cells_new _ _ _ _ rfl) (by simp [Value.oneCell']) (by unfold maxLen; omega) (by omega) (by simp; omega) ?_; intro v' w2 hown' hgrow _; have HB7 := Lib.hid (below_append (HB6.out.alloc HB6.out.size _) (by simp; omega) (R6.out.alloc _) hgrow); obtain ⟨g', cap', rfl⟩ := ownsRow_succ hown'; have HO := Lib.hid hown'; clear hown' hgrow))
        go_roundw
        case rel =>
          refine ⟨k + 1, m + 1, some ⟨g', 0, none⟩, cap', by omega, by go_num, rfl, by rw [filter_yes HXK.out HMB.out, List.length_append, HM.out]; rfl, by omega, ?_, HB7.out⟩
          have e2 : tokCells ((xs.take (k + 1)).filter mayT) = tokCells ((xs.take k).filter mayT) ++ [.int .u8 xk, .int .i64 xl, .string xt, .int .i64 xn] := by
            rw [filter_yes HXK.out HMB.out, tokCells_append]; rfl
          rw [e2]; exact HO.out
        case measure => simp [intOf]; omega
    · obtain rfl : k = n := by omega
      have hfull : (xs.take k).filter mayT = zs := by rw [← HX.out.1, List.take_length]; exact HZ.out
      have hmz : zs.length = m := by rw [← hfull]; exact HM.out
      have hrz := HR.out
      rw [hfull] at hrz
      have HRZ := Lib.hid hrz
      have HMZ := Lib.hid hmz
      clear hfull hmz hrz hbel
      go_wp2
      go_returns
      exact ⟨q, cap, by rw [HMZ.out]; rfl, by rw [HMZ.out]; exact HRZ.out, HW.out⟩

end Go.Proofs.YtalbcgbfefgjfaaDoor
