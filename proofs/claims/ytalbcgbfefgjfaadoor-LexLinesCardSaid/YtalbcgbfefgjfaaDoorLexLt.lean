
/-
  THE LAW LexTexts: its walk.
-/
import Derived.Test.YtalbcgbfefgjfaaDoorLexRt
import Derived.Test.YtalbcgbfefgjfaaDoorLexAk
import Derived.Test.YtalbcgbfefgjfaaDoorLexOp
namespace Go.Proofs.YtalbcgbfefgjfaaDoor
open Go Go.RowKit

theorem lines_in {w : World} {p : Option Addr} {n : Nat} {zs : List LineR} (hl : zs.length = n) (h : ∀ (i : Nat) z, zs[i]? = some z → ∃ a, p = some a ∧ w.cell? (a.add (i * 2)) = some (.int .i64 z.d) ∧ w.cell? ⟨(a.add (i * 2)).block, (a.add (i * 2)).off + 1, none⟩ = some (.slice z.p z.n z.cp) ∧
    (-9223372036854775808 ≤ z.d ∧ z.d ≤ 9223372036854775807) ∧ z.n ≤ 9223372036854775807 ∧ Toks w z.p z.n z.xs ∧ ∀ (j : Nat) (x : TokR), z.xs[j]? = some x → x.t.size ≤ 9223372036854775807)
    (h4 : ∀ (i : Nat) z, zs[i]? = some z → z.n ≤ 400) : LinesIn w p n zs :=
  ⟨hl, fun i z hz => by
    obtain ⟨a, ha, c0, c1, _, _, ht, hs⟩ := h i z hz
    exact ⟨a, ha, c0, c1, ht, hs, by have := h4 i z hz; omega⟩⟩

set_option maxRecDepth 100000 in
set_option maxHeartbeats 4000000 in
theorem law_lexTexts (ap : Option Addr) (an ac : Nat) (bp : Option Addr) (bn bc : Nat) (w : World) (L : LibOk w) (ha : TokensIn w ap an) (hb : LinesOk w bp bn) : Calls Tryd.prog 6 #[.slice ap an ac, .slice bp bn bc] w (Gives w (.bool true)) := by
  obtain ⟨_, xs, hx, hxs⟩ := ha
  obtain ⟨_, zs, hzl, hzs⟩ := hb
  have HL := Lib.hid L
  have HX := Lib.hid hx
  have HXS := Lib.hid hxs
  have HZL := Lib.hid hzl
  have HZS := Lib.hid hzs
  clear L hx hxs hzl hzs
  by_cases h1 : 400 < an
  · go_enter Tryd.func6, Tryd.ntmps6
    go_wp2_with (first
      | (go_at_call 19; refine (awake_any _ HL.out).mono ?_; rintro e w1 ⟨rfl, hb⟩; have HB := Lib.hid hb; clear hb))
    go_returns
    exact ⟨rfl, HB.out⟩
  · by_cases h2 : 60 < bn
    · go_enter Tryd.func6, Tryd.ntmps6
      go_wp2_with (first
        | (go_at_call 19; refine (awake_any _ HL.out).mono ?_; rintro e w1 ⟨rfl, hb⟩; have HB := Lib.hid hb; clear hb))
      go_returns
      exact ⟨rfl, HB.out⟩
    · have ha4 : an ≤ 400 := by omega
      have hb6 : bn ≤ 60 := by omega
      clear h1 h2
      go_enter Tryd.func6, Tryd.ntmps6
      go_wp2
      go_loopw [26] (fun i wr => ∃ k : Nat, k ≤ bn ∧ i = .int .i64 k ∧ Below w.heap.size w wr ∧ ∀ (j : Nat) (z : LineR), j < k → zs[j]? = some z → z.n ≤ 400) (fun i _ => bn - (intOf i).toNat)
      case atStart => exact ⟨0, Nat.zero_le _, rfl, Below.refl _ _, fun j _ hj => by omega⟩
      case round =>
        obtain ⟨k, hk, rfl, hbel, hsh⟩ := hrel
        have HW := Lib.hid hbel
        have HSH := Lib.hid hsh
        clear hsh
        by_cases hlt : k < bn
        · obtain ⟨z, hz⟩ := line_some HZL.out hlt
          obtain ⟨a, rfl, c0, c1, _, hzn, _, _⟩ := HZS.out k z hz
          have z0 := keepA' hbel c0
          have z1 := keepA' hbel c1
          have hblz := World.block_lt_of_cell? _ _ z0
          have KZ := Lib.hid hz
          have hal := Lib.hid ((Below.refl wr.heap.size wr).alloc (Nat.le_refl _) (.cells #[.int .i64 z.d, .slice z.p z.n z.cp] 35))
          have HW1 := Lib.hid (after HW.out hal.out)
          clear hz c0 c1 hbel hzn
          by_cases hbig : 400 < z.n
          · go_wp2_with (first
              | (go_at_call 19; refine (awake_any _ (HL.out.below HW1.out)).mono ?_; rintro e w1 ⟨rfl, hb⟩; have HB := Lib.hid (after HW1.out hb); clear hb))
            go_returns
            exact ⟨rfl, HB.out⟩
          · have hsm : z.n ≤ 400 := by omega
            clear hbig
            go_wp2
            go_roundw
            case rel =>
              refine ⟨k + 1, by omega, by go_num, HW1.out, fun j x hj hx => ?_⟩
              by_cases e : j = k
              · subst e
                obtain rfl := Option.some.inj (KZ.out.symm.trans hx)
                exact hsm
              · exact HSH.out j x (by omega) hx
            case measure => simp [intOf]; omega
        · obtain rfl : bn = k := by omega
          have h400 : ∀ (i : Nat) z, zs[i]? = some z → z.n ≤ 400 := fun i z hz => HSH.out i z (by have := (List.getElem?_eq_some_iff.1 hz).1; have := HZL.out; omega) hz
          have HLI := Lib.hid (lines_in HZL.out HZS.out h400)
          have H400 := Lib.hid (fun (i : Nat) z (hz : zs[i]? = some z) => Nat.le_trans (h400 i z hz) (by omega : 400 ≤ 1000))
          obtain ⟨ts, hts⟩ : ∃ ts, textS xs = ts := ⟨_, rfl⟩
          obtain ⟨te, hte⟩ : ∃ te, textE xs = te := ⟨_, rfl⟩
          obtain ⟨us, hus⟩ : ∃ us, linesS zs = us := ⟨_, rfl⟩
          obtain ⟨ue, hue⟩ : ∃ ue, linesE zs = ue := ⟨_, rfl⟩
          have HTS := Lib.hid hts
          have HTE := Lib.hid hte
          have HUS := Lib.hid hus
          have HUE := Lib.hid hue
          clear h400 hbel hts hte hus hue
          go_wp2_with (first
            | (go_at_call 27; refine (text_any _ _ _ xs _ (HX.out.below HW.out) HXS.out (by omega) (HL.out.below HW.out).pow).mono ?_; rw [HTS.out, HTE.out]; rintro e w1 ⟨q1, rfl, hq1, hb⟩; have HB1 := Lib.hid (after HW.out hb); have HQ1 := Lib.hid hq1; clear hb hq1)
            | (go_at_call 28; refine (rtext2_any _ _ _ xs _ (HX.out.below HB1.out) HXS.out (by omega)).mono ?_; rw [HTS.out, HTE.out]; rintro e w2 ⟨q2, rfl, hq2, hb⟩; have HB2 := Lib.hid (after HB1.out hb); obtain rfl : q1 = q2 := ba_ext (HQ1.out.trans hq2.symm); clear hb hq2)
            | (go_at_call 29; refine (lines_any _ _ _ zs _ (HLI.out.below HB2.out) (by omega) (HL.out.below HB2.out).pow).mono ?_; rw [HUS.out, HUE.out]; rintro e w3 ⟨q3, rfl, hq3, hb⟩; have HB3 := Lib.hid (after HB2.out hb); have HQ3 := Lib.hid hq3; clear hb hq3)
            | (go_at_call 30; refine (rlines_any _ _ _ zs _ (HLI.out.below HB3.out) (by omega) H400.out).mono ?_; rw [HUS.out, HUE.out]; rintro e w4 ⟨q4, rfl, hq4, hb⟩; have HB4 := Lib.hid (after HB3.out hb); obtain rfl : q3 = q4 := ba_ext (HQ3.out.trans hq4.symm); clear hb hq4)
            | (go_at_call 19; refine (awake_any _ (HL.out.below HB4.out)).mono ?_; rintro e w5 ⟨rfl, hb⟩; have HB5 := Lib.hid (after HB4.out hb); clear hb))
          go_returns
          exact ⟨rfl, HB5.out⟩

end Go.Proofs.YtalbcgbfefgjfaaDoor
