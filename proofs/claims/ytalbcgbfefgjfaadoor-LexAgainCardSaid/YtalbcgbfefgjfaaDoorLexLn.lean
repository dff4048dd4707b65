
/-
  lex.Lines.
-/
import Derived.Test.YtalbcgbfefgjfaaDoorLexTx
namespace Go.Proofs.YtalbcgbfefgjfaaDoor
open Go Go.RowKit

/-- A line of tokens. -/
structure LineR where
  d : Int
  p : Option Addr
  n : Nat
  cp : Nat
  xs : List TokR
structure LineAt (w : World) (a : Addr) (z : LineR) : Prop where
  c0 : w.cell? a = some (.int .i64 z.d)
  c1 : w.cell? ⟨a.block, a.off + 1, none⟩ = some (.slice z.p z.n z.cp)
  toks : Toks w z.p z.n z.xs
  sizes : ∀ (i : Nat) (x : TokR), z.xs[i]? = some x → x.t.size ≤ 9223372036854775807
  len : z.n ≤ 4611686018427387904
def LinesIn (w : World) (p : Option Addr) (n : Nat) (zs : List LineR) : Prop := zs.length = n ∧ ∀ i z, zs[i]? = some z → ∃ a, p = some a ∧ LineAt w (a.add (i * 2)) z
theorem LineAt.below {w W : World} {a : Addr} {z : LineR} (h : LineAt w a z) (hb : Below w.heap.size w W) : LineAt W a z := ⟨keepA' hb h.c0, keepA' hb h.c1, h.toks.below hb, h.sizes, h.len⟩
theorem LinesIn.below {w W : World} {p : Option Addr} {n : Nat} {zs : List LineR} (h : LinesIn w p n zs) (hb : Below w.heap.size w W) : LinesIn W p n zs :=
  ⟨h.1, fun i z hz => by obtain ⟨a, rfl, ha⟩ := h.2 i z hz; exact ⟨a, rfl, ha.below hb⟩⟩
theorem line_some {zs : List LineR} {n k : Nat} (h : zs.length = n) (hk : k < n) : ∃ z, zs[k]? = some z := ⟨zs[k]'(by omega), List.getElem?_eq_getElem (by omega)⟩

/-- May a line be written? Is it short? Its text. -/
def LineR.valid (z : LineR) : Bool := decide (0 ≤ z.d ∧ z.d ≤ 80) && z.xs.all mayT
def LineR.text (z : LineR) : List UInt8 := lineL z.d.toNat z.xs
def LineR.short (z : LineR) : Bool := decide (z.text.length ≤ 256)
def linesT : List LineR → List UInt8
  | [] => []
  | z :: zs => z.text ++ 10 :: linesT zs
theorem linesT_append : ∀ a b : List LineR, linesT (a ++ b) = linesT a ++ linesT b
  | [], _ => rfl
  | z :: a, b => by simp [linesT, linesT_append a b]
/-- What Lines answers. -/
def linesS (zs : List LineR) : List UInt8 := if zs.all LineR.valid = true then if zs.all LineR.short = true ∧ (linesT zs).length ≤ 65536 then linesT zs else [] else []
def linesE (zs : List LineR) : Int := if zs.all LineR.valid = true then if zs.all LineR.short = true ∧ (linesT zs).length ≤ 65536 then 0 else 3 else 2

theorem lall_not {zs : List LineR} {f : LineR → Bool} {i : Nat} {x : LineR} (h : zs[i]? = some x) (hf : f x = false) : zs.all f = false := by
  cases ha : zs.all f with
  | false => rfl
  | true =>
    rw [List.all_eq_true] at ha
    rw [ha x (List.mem_of_getElem? h)] at hf
    cases hf
theorem lall_yes {zs : List LineR} {f : LineR → Bool} (h : ∀ (i : Nat) (x : LineR), zs[i]? = some x → f x = true) : zs.all f = true := by
  rw [List.all_eq_true]
  intro x hx
  obtain ⟨i, hi, rfl⟩ := List.getElem_of_mem hx
  exact h i _ (List.getElem?_eq_getElem hi)
theorem ltake {zs : List LineR} {k : Nat} {x : LineR} (h : zs[k]? = some x) : zs.take (k + 1) = zs.take k ++ [x] := by
  obtain ⟨hk, rfl⟩ := List.getElem?_eq_some_iff.1 h
  rw [List.take_succ_eq_append_getElem hk]
theorem linesT_next {zs : List LineR} {k : Nat} {x : LineR} (h : zs[k]? = some x) : linesT (zs.take (k + 1)) = linesT (zs.take k) ++ (x.text ++ [10]) := by
  rw [ltake h, linesT_append]; simp [linesT]
theorem linesT_front (zs : List LineR) (k : Nat) : (linesT (zs.take k)).length ≤ (linesT zs).length := by
  have : linesT zs = linesT (zs.take k) ++ linesT (zs.drop k) := by rw [← linesT_append, List.take_append_drop]
  rw [this, List.length_append]; omega

set_option maxRecDepth 100000 in
set_option maxHeartbeats 8000000 in
theorem lines_any (p : Option Addr) (n cp : Nat) (zs : List LineR) (w : World) (hx : LinesIn w p n zs) (hn : n ≤ 4611686018427387904) (ht : PowOk w) :
    Calls Tryd.prog 29 #[.slice p n cp] w (GivesTxt w (linesS zs) (linesE zs)) := by
  have HX := Lib.hid hx
  have HT := Lib.hid ht
  obtain ⟨ts, hts⟩ : ∃ ts, linesS zs = ts := ⟨_, rfl⟩
  obtain ⟨te, hte⟩ : ∃ te, linesE zs = te := ⟨_, rfl⟩
  rw [hts, hte]
  have HTS := Lib.hid hts
  have HTE := Lib.hid hte
  clear hx ht hts hte
  go_enter Tryd.func29, Tryd.ntmps29
  go_wp2
  go_loopw [13] (fun i wr => ∃ k : Nat, k ≤ n ∧ i = .int .i64 k ∧ Below w.heap.size w wr ∧ ∀ (j : Nat) (z : LineR), j < k → zs[j]? = some z → z.valid = true) (fun i _ => n - (intOf i).toNat)
  case atStart => exact ⟨0, Nat.zero_le _, rfl, Below.refl _ _, fun j _ hj => by omega⟩
  case round =>
    obtain ⟨k, hk, rfl, hbel, hall⟩ := hrel
    have HA := Lib.hid hall
    have HB := Lib.hid hbel
    clear hall
    by_cases hlt : k < n
    · obtain ⟨z, hz⟩ := line_some HX.out.1 hlt
      obtain ⟨a, rfl, haz⟩ := HX.out.2 k z hz
      have hw := haz.below hbel
      have HZ := Lib.hid hw
      have KZ := Lib.hid hz
      obtain ⟨z0, z1, _, _, zl⟩ := hw
      have hblz := World.block_lt_of_cell? _ _ z0
      clear hz haz hbel
      cases hv : z.valid
      · have hno : zs.all LineR.valid = false := lall_not KZ.out hv
        have e1 : ts = [] := by rw [← HTS.out, linesS, hno]; rfl
        have e2 : te = 2 := by rw [← HTE.out, linesE, hno]; rfl
        subst e1 e2
        have HV := Lib.hid hv
        clear hno hv
        have hal := Lib.hid ((Below.refl wr.heap.size wr).alloc (Nat.le_refl _) (.cells #[.int .i64 z.d, .slice z.p z.n z.cp] 35))
        by_cases hd : 0 ≤ z.d ∧ z.d ≤ 80
        · have hex : z.xs.all mayT = false := by
            have := HV.out
            unfold LineR.valid at this
            rw [decide_eq_true hd, Bool.true_and] at this
            exact this
          obtain ⟨hd0, hd1⟩ := hd
          have HE := Lib.hid hex
          clear hex
          go_wp2_with (go_at_call 54; refine (exist_any _ _ _ _ _ (HZ.out.toks.below hal.out) HZ.out.sizes zl).mono ?_; rw [HE.out]; rintro e w1 ⟨rfl, hb⟩; have HB1 := Lib.hid (after (HB.out.trans (hal.out.mono HB.out.size)) hb); clear hb)
          go_returns
          exact ⟨⟨#[]⟩, rfl, str_toList [], HB1.out⟩
        · by_cases hd0 : z.d < 0
          · go_wp2
            go_returns
            exact ⟨⟨#[]⟩, rfl, str_toList [], HB.out.trans (hal.out.mono HB.out.size)⟩
          · have hd1 : 80 < z.d := by omega
            clear hd
            go_wp2
            go_returns
            exact ⟨⟨#[]⟩, rfl, str_toList [], HB.out.trans (hal.out.mono HB.out.size)⟩
      · have HV := Lib.hid hv
        have hh := hv
        unfold LineR.valid at hh
        simp only [Bool.and_eq_true, decide_eq_true_eq] at hh
        obtain ⟨⟨hd0, hd1⟩, hex⟩ := hh
        have HE := Lib.hid hex
        have hal := Lib.hid ((Below.refl wr.heap.size wr).alloc (Nat.le_refl _) (.cells #[.int .i64 z.d, .slice z.p z.n z.cp] 35))
        clear hex hv
        go_wp2_with (go_at_call 54; refine (exist_any _ _ _ _ _ (HZ.out.toks.below hal.out) HZ.out.sizes zl).mono ?_; rw [HE.out]; rintro e w1 ⟨rfl, hb⟩; have HB1 := Lib.hid (after (HB.out.trans (hal.out.mono HB.out.size)) hb); clear hb)
        go_roundw
        case rel =>
          refine ⟨k + 1, by omega, by go_num, HB1.out, fun j x hj hx => ?_⟩
          by_cases e : j = k
          · subst e
            obtain rfl := Option.some.inj (KZ.out.symm.trans hx)
            exact HV.out
          · exact HA.out j x (by omega) hx
        case measure => simp [intOf]; omega
    · obtain rfl : n = k := by omega
      have hyes : zs.all LineR.valid = true := lall_yes (fun j x hj => HA.out j x (by have := (List.getElem?_eq_some_iff.1 hj).1; have := HX.out.1; omega) hj)
      have HY := Lib.hid hyes
      obtain ⟨wv, rfl⟩ : ∃ wv : World, wv = wr := ⟨_, rfl⟩
      have BL0 := Lib.hid (Bld.new wv)
      have BB0 := Lib.hid (HB.out.alloc HB.out.size (.cells #[.pointer none, .slice none 0 0] 77))
      have hwv : w.heap.size ≤ wv.heap.size := HB.out.size
      clear hyes hbel
      have hbad : (¬ (zs.all LineR.short = true ∧ (linesT zs).length ≤ 65536)) → ts = [] ∧ te = 3 := fun h => ⟨by rw [← HTS.out, linesS, HY.out, if_pos rfl, if_neg h], by rw [← HTE.out, linesE, HY.out, if_pos rfl, if_neg h]⟩
      have HBAD := Lib.hid hbad
      clear hbad
      go_wp2
      go_loopw [34] (fun i wr => ∃ k : Nat, k ≤ n ∧ i = .int .i64 k ∧ Bld wv.heap.size (linesT (zs.take k)) wr ∧ Below w.heap.size w wr ∧ (linesT (zs.take k)).length ≤ 65536 ∧ ∀ (j : Nat) (z : LineR), j < k → zs[j]? = some z → z.short = true) (fun i _ => n - (intOf i).toNat)
      case atStart => exact ⟨0, Nat.zero_le _, rfl, BL0.out, BB0.out, Nat.zero_le _, fun j _ hj => by omega⟩
      case round =>
        obtain ⟨k, hk, rfl, hbl, hbel, hlen, hsh⟩ := hrel
        have BL := Lib.hid hbl
        have HW := Lib.hid hbel
        have HL := Lib.hid hlen
        have HSH := Lib.hid hsh
        clear hbl hlen hsh
        by_cases hlt : k < n
        · obtain ⟨z, hz⟩ := line_some HX.out.1 hlt
          obtain ⟨a, rfl, haz⟩ := HX.out.2 k z hz
          have hw := haz.below hbel
          have hvz := List.all_eq_true.1 HY.out z (List.mem_of_getElem? hz)
          have HZ := Lib.hid hw
          have KZ := Lib.hid hz
          obtain ⟨z0, z1, _, _, zl⟩ := hw
          have hblz := World.block_lt_of_cell? _ _ z0
          obtain ⟨zd, zp, zn, zc, zx⟩ := z
          dsimp only at z0 z1 zl
          unfold LineR.valid at hvz
          simp only [Bool.and_eq_true, decide_eq_true_eq] at hvz
          obtain ⟨⟨hd0, hd1⟩, hex⟩ := hvz
          obtain ⟨m, rfl⟩ := Int.eq_ofNat_of_zero_le hd0
          have HM := Lib.hid (List.all_eq_true.1 hex)
          have hal := Lib.hid ((Below.refl wr.heap.size wr).alloc (Nat.le_refl _) (.cells #[.int .i64 m, .slice zp zn zc] 35))
          have HN := Lib.hid (linesT_next KZ.out)
          have BL1 := Lib.hid (BL.out.below hal.out)
          have HW1 := Lib.hid (HW.out.trans (hal.out.mono HW.out.size))
          have ZL := Lib.hid zl
          clear hz haz hbel hex zl
          obtain ⟨L, hL⟩ : ∃ L, lineL m zx = L := ⟨_, rfl⟩
          have hLt : (⟨(m : Int), zp, zn, zc, zx⟩ : LineR).text = L := by rw [← hL]; rfl
          have HL1 := Lib.hid hL
          have HLT := Lib.hid hLt
          clear hL hLt
          by_cases hs : L.length ≤ 256
          · obtain ⟨A, hA⟩ : ∃ A, (linesT (zs.take k)).length = A := ⟨_, rfl⟩
            have HA1 := Lib.hid hA
            have hA2 : A ≤ 65536 := by rw [← hA]; exact HL.out
            clear hA
            have hds : decide (L.length ≤ 256) = true := decide_eq_true hs
            have HS := Lib.hid hs
            have HDS := Lib.hid hds
            have hnl : (linesT (zs.take (k + 1))).length = A + L.length + 1 := by rw [HN.out, HLT.out, ← HA1.out]; simp; omega
            have HNL := Lib.hid hnl
            clear hds hnl
            by_cases htot : 65536 < A + L.length + 1
            · obtain ⟨e1, e2⟩ := HBAD.out (fun h => by have := linesT_front zs (k + 1); have := HNL.out; have := h.2; omega)
              subst e1 e2
              have htot2 : (65536 : Int) < A + L.length + 1 := by omega
              clear htot
              go_wp2_with (first
                | (go_at_call 55; refine (written_any m _ _ _ zx _ (HZ.out.toks.below hal.out) (by omega) ZL.out HM.out (HT.out.below HW1.out)).mono ?_; rw [HL1.out, WrRes_eq, HDS.out]; rintro e w2 ⟨q, rfl, hq, hb2⟩; rw [if_pos HS.out] at hq; have HQ := Lib.hid hq; have hqs : q.size = L.length := (by rw [← length_toList, hq]); have BL2 := Lib.hid (BL1.out.below hb2); have HW2 := Lib.hid (after HW1.out hb2); clear hb2 hq)
                | (go_at_call 58; refine (bld_len _ _ _ BL2.out).mono ?_; rintro e w3 ⟨rfl, rfl⟩; rw [HA1.out]))
              go_returns
              exact ⟨⟨#[]⟩, rfl, str_toList [], HW2.out⟩
            · have htot2 : decide ((65536 : Int) < (A : Int) + L.length + 1) = false := decide_eq_false (by omega)
              have HTT := Lib.hid htot
              have HA2 := Lib.hid hA2
              clear htot
              go_wp2_with (first
                | (go_at_call 55; refine (written_any m _ _ _ zx _ (HZ.out.toks.below hal.out) (by omega) ZL.out HM.out (HT.out.below HW1.out)).mono ?_; rw [HL1.out, WrRes_eq, HDS.out]; rintro e w2 ⟨q, rfl, hq, hb2⟩; rw [if_pos HS.out] at hq; have HQ := Lib.hid hq; have hqs : q.size = L.length := (by rw [← length_toList, hq]); have BL2 := Lib.hid (BL1.out.below hb2); have HW2 := Lib.hid (after HW1.out hb2); clear hb2 hq)
                | (go_at_call 58; refine (bld_len _ _ _ BL2.out).mono ?_; rintro e w3 ⟨rfl, rfl⟩; rw [HA1.out])
                | (go_at_call 59; refine (bld_string _ _ _ _ BL2.out (by have := HA1.out; have := HA2.out; omega)).mono ?_; rintro e w4 ⟨rfl, hb4, hbel4, _⟩; rw [HQ.out] at hb4; have BL4 := Lib.hid hb4; have HW4 := Lib.hid (HW2.out.trans (hbel4.mono hwv)); clear hb4 hbel4)
                | (go_at_call 60; refine (bld_byte _ _ 10 _ BL4.out (by rw [List.length_append]; have := HA1.out; have := HA2.out; omega)).mono ?_; rintro e w5 ⟨rfl, hb5, hbel5, _⟩; rw [List.append_assoc, ← HLT.out, ← HN.out] at hb5; have BL5 := Lib.hid hb5; have HW5 := Lib.hid (HW4.out.trans (hbel5.mono hwv)); clear hb5 hbel5))
              go_roundw
              case rel =>
                refine ⟨k + 1, by omega, by go_num, BL5.out, HW5.out, by have := HNL.out; have := HTT.out; omega, fun j x hj hx => ?_⟩
                by_cases e : j = k
                · subst e
                  obtain rfl := Option.some.inj (KZ.out.symm.trans hx)
                  unfold LineR.short
                  rw [HLT.out]; exact HDS.out
                · exact HSH.out j x (by omega) hx
              case measure => simp [intOf]; omega
          · obtain ⟨e1, e2⟩ := HBAD.out (fun h => by
              have := List.all_eq_true.1 h.1 _ (List.mem_of_getElem? KZ.out)
              unfold LineR.short at this
              rw [HLT.out] at this
              exact hs (of_decide_eq_true this))
            subst e1 e2
            have hds : decide (L.length ≤ 256) = false := decide_eq_false hs
            have HDS := Lib.hid hds
            clear hds hs
            go_wp2_with (first
              | (go_at_call 55; refine (written_any m _ _ _ zx _ (HZ.out.toks.below hal.out) (by omega) ZL.out HM.out (HT.out.below HW1.out)).mono ?_; rw [HL1.out, WrRes_eq, HDS.out]; rintro e w2 ⟨q, rfl, _, hb2⟩; have HW2 := Lib.hid (after HW1.out hb2); clear hb2))
            go_returns
            exact ⟨⟨#[]⟩, rfl, str_toList [], HW2.out⟩
        · obtain rfl : n = k := by omega
          have hall : zs.take n = zs := List.take_of_length_le (by rw [HX.out.1]; exact Nat.le_refl _)
          have hgood : zs.all LineR.short = true ∧ (linesT zs).length ≤ 65536 := ⟨lall_yes (fun j x hj => HSH.out j x (by have := (List.getElem?_eq_some_iff.1 hj).1; have := HX.out.1; omega) hj), by have := HL.out; rw [hall] at this; exact this⟩
          have e1 : ts = linesT zs := by rw [← HTS.out, linesS, HY.out, if_pos rfl, if_pos hgood]
          have e2 : te = 0 := by rw [← HTE.out, linesE, HY.out, if_pos rfl, if_pos hgood]
          subst e2
          have E1 := Lib.hid e1
          have hbl := BL.out
          rw [hall] at hbl
          have BL' := Lib.hid hbl
          clear hall hgood e1 hbl hbel
          go_wp2_with (go_at_call 61; refine (bld_text _ _ _ BL'.out).mono ?_; rintro e w2 ⟨rfl, hb2⟩; have HB2 := Lib.hid (HW.out.trans (hb2.mono hwv)); clear hb2)
          go_returns
          exact ⟨str (linesT zs), rfl, by rw [E1.out]; exact str_toList _, HB2.out⟩

end Go.Proofs.YtalbcgbfefgjfaaDoor
