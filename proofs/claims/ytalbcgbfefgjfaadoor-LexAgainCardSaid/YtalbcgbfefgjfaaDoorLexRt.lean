
/-
  THE REFERENCE's Text, Lines.
-/
import Derived.Test.YtalbcgbfefgjfaaDoorLexJ
import Derived.Test.YtalbcgbfefgjfaaDoorLexLn
namespace Go.Proofs.YtalbcgbfefgjfaaDoor
open Go Go.RowKit

set_option maxRecDepth 100000 in
theorem rtext2_any (p : Option Addr) (n cp : Nat) (xs : List TokR) (w : World) (hx : Toks w p n xs) (hs : ∀ (i : Nat) (x : TokR), xs[i]? = some x → x.t.size ≤ 9223372036854775807) (hn : n ≤ 1000) :
    Calls Tryd.prog 28 #[.slice p n cp] w (GivesTxt w (textS xs) (textE xs)) := by
  have HX := Lib.hid hx
  have HS := Lib.hid hs
  obtain ⟨ts, hts⟩ : ∃ ts, textS xs = ts := ⟨_, rfl⟩
  obtain ⟨te, hte⟩ : ∃ te, textE xs = te := ⟨_, rfl⟩
  rw [hts, hte]
  have HTS := Lib.hid hts
  have HTE := Lib.hid hte
  clear hx hs hts hte
  cases hall : xs.all mayT
  · have e1 : ts = [] := by rw [← HTS.out, textS, hall]; rfl
    have e2 : te = 2 := by rw [← HTE.out, textE, hall]; rfl
    have HA := Lib.hid hall
    subst e1 e2
    clear hall
    go_enter Tryd.func28, Tryd.ntmps28
    go_wp2_with (go_at_call 56; refine (rfine_any _ _ _ _ _ HX.out HS.out (by omega)).mono ?_; rw [HA.out]; rintro e w1 ⟨rfl, hb⟩; have HB := Lib.hid hb; clear hb)
    go_returns
    exact ⟨⟨#[]⟩, rfl, str_toList [], HB.out⟩
  · have hmem : ∀ x ∈ xs, mayT x = true := List.all_eq_true.1 hall
    have HM := Lib.hid hmem
    have HA := Lib.hid hall
    clear hall hmem
    by_cases hno : (joinL xs).length ≤ 256
    · have e1 : ts = joinL xs := by rw [← HTS.out, textS, HA.out, if_pos rfl, if_pos hno]
      have e2 : te = 0 := by rw [← HTE.out, textE, HA.out, if_pos rfl, if_pos hno]
      have HNO := Lib.hid hno
      have E1 := Lib.hid e1
      subst e2
      clear hno e1
      go_enter Tryd.func28, Tryd.ntmps28
      go_wp2_with (first
        | (go_at_call 56; refine (rfine_any _ _ _ _ _ HX.out HS.out (by omega)).mono ?_; rw [HA.out]; rintro e w1 ⟨rfl, hb⟩; have HB := Lib.hid hb; clear hb)
        | (go_at_call 57; refine (rjoined_any _ _ _ xs _ (HX.out.below HB.out) hn HM.out).mono ?_; rintro e w2 ⟨q, rfl, hq, hb2⟩; have HB2 := Lib.hid (after HB.out hb2); have hqs : (q.size : Int) ≤ 256 := (by rw [← length_toList, hq]; have := HNO.out; omega); have HQ := Lib.hid hq; clear hb2 hq))
      go_returns
      exact ⟨q, rfl, by rw [HQ.out, E1.out], HB2.out⟩
    · have e1 : ts = [] := by rw [← HTS.out, textS, HA.out, if_pos rfl, if_neg hno]
      have e2 : te = 3 := by rw [← HTE.out, textE, HA.out, if_pos rfl, if_neg hno]
      have HNO := Lib.hid hno
      subst e1 e2
      clear hno
      go_enter Tryd.func28, Tryd.ntmps28
      go_wp2_with (first
        | (go_at_call 56; refine (rfine_any _ _ _ _ _ HX.out HS.out (by omega)).mono ?_; rw [HA.out]; rintro e w1 ⟨rfl, hb⟩; have HB := Lib.hid hb; clear hb)
        | (go_at_call 57; refine (rjoined_any _ _ _ xs _ (HX.out.below HB.out) hn HM.out).mono ?_; rintro e w2 ⟨q, rfl, hq, hb2⟩; have HB2 := Lib.hid (after HB.out hb2); have hqs : (256 : Int) < q.size := (by rw [← length_toList, hq]; have := HNO.out; omega); clear hb2 hq))
      go_returns
      exact ⟨⟨#[]⟩, rfl, str_toList [], HB2.out⟩

theorem spaces_two : (⟨#[32, 32]⟩ : ByteArray).toList = [32, 32] := str_toList [32, 32]
theorem feed_one : (⟨#[10]⟩ : ByteArray).toList = [10] := str_toList [10]

set_option maxRecDepth 100000 in
set_option maxHeartbeats 8000000 in
theorem rlines_any (p : Option Addr) (n cp : Nat) (zs : List LineR) (w : World) (hx : LinesIn w p n zs) (hn : n ≤ 100) (hzn : ∀ (i : Nat) z, zs[i]? = some z → z.n ≤ 1000) :
    Calls Tryd.prog 30 #[.slice p n cp] w (GivesTxt w (linesS zs) (linesE zs)) := by
  have HX := Lib.hid hx
  have HZN := Lib.hid hzn
  obtain ⟨ts, hts⟩ : ∃ ts, linesS zs = ts := ⟨_, rfl⟩
  obtain ⟨te, hte⟩ : ∃ te, linesE zs = te := ⟨_, rfl⟩
  rw [hts, hte]
  have HTS := Lib.hid hts
  have HTE := Lib.hid hte
  clear hx hzn hts hte
  go_enter Tryd.func30, Tryd.ntmps30
  go_wp2
  go_loopw [4] (fun i wr => ∃ k : Nat, k ≤ n ∧ i = .int .i64 k ∧ Below w.heap.size w wr ∧ ∀ (j : Nat) (z : LineR), j < k → zs[j]? = some z → z.valid = true) (fun i _ => n - (intOf i).toNat)
  case atStart => exact ⟨0, Nat.zero_le _, rfl, Below.refl _ _, fun j _ hj => by omega⟩
  case round =>
    obtain ⟨k, hk, rfl, hbel, hall⟩ := hrel
    have HA := Lib.hid hall
    have HB := Lib.hid hbel
    clear hall
    by_cases hlt : k < n
    · obtain ⟨z, hz⟩ := line_some HX.out.1 hlt
      obtain ⟨a, rfl, haz⟩ := HX.out.2 k z hz
      have hw := haz.below hbel
      have HZ := Lib.hid hw
      have KZ := Lib.hid hz
      obtain ⟨z0, z1, _, _, zl⟩ := hw
      have hblz := World.block_lt_of_cell? _ _ z0
      have ZL := Lib.hid zl
      clear hz haz hbel zl
      cases hv : z.valid
      · have hno : zs.all LineR.valid = false := lall_not KZ.out hv
        have e1 : ts = [] := by rw [← HTS.out, linesS, hno]; rfl
        have e2 : te = 2 := by rw [← HTE.out, linesE, hno]; rfl
        subst e1 e2
        have HV := Lib.hid hv
        clear hno hv
        by_cases hd : 0 ≤ z.d ∧ z.d ≤ 80
        · have hex : z.xs.all mayT = false := by
            have := HV.out
            unfold LineR.valid at this
            rw [decide_eq_true hd, Bool.true_and] at this
            exact this
          obtain ⟨hd0, hd1⟩ := hd
          have HE := Lib.hid hex
          clear hex
          go_wp2_with (go_at_call 56; refine (rfine_any _ _ _ _ _ HZ.out.toks HZ.out.sizes ZL.out).mono ?_; rw [HE.out]; rintro e w1 ⟨rfl, hb⟩; have HB1 := Lib.hid (after HB.out hb); clear hb)
          go_returns
          exact ⟨⟨#[]⟩, rfl, str_toList [], HB1.out⟩
        · by_cases hd0 : z.d < 0
          · go_wp2
            go_returns
            exact ⟨⟨#[]⟩, rfl, str_toList [], HB.out⟩
          · have hd1 : 80 < z.d := by omega
            clear hd
            go_wp2
            go_returns
            exact ⟨⟨#[]⟩, rfl, str_toList [], HB.out⟩
      · have HV := Lib.hid hv
        have hh := hv
        unfold LineR.valid at hh
        simp only [Bool.and_eq_true, decide_eq_true_eq] at hh
        obtain ⟨⟨hd0, hd1⟩, hex⟩ := hh
        have HE := Lib.hid hex
        clear hex hv
        go_wp2_with (go_at_call 56; refine (rfine_any _ _ _ _ _ HZ.out.toks HZ.out.sizes ZL.out).mono ?_; rw [HE.out]; rintro e w1 ⟨rfl, hb⟩; have HB1 := Lib.hid (after HB.out hb); clear hb)
        go_roundw
        case rel =>
          refine ⟨k + 1, by omega, by go_num, HB1.out, fun j x hj hx => ?_⟩
          by_cases e : j = k
          · subst e
            obtain rfl := Option.some.inj (KZ.out.symm.trans hx)
            exact HV.out
          · exact HA.out j x (by omega) hx
        case measure => simp [intOf]; omega
    · obtain rfl : n = k := by omega
      have hyes : zs.all LineR.valid = true := lall_yes (fun j x hj => HA.out j x (by have := (List.getElem?_eq_some_iff.1 hj).1; have := HX.out.1; omega) hj)
      have HY := Lib.hid hyes
      obtain ⟨wv, rfl⟩ : ∃ wv : World, wv = wr := ⟨_, rfl⟩
      clear hyes hbel
      have hbad : (¬ (zs.all LineR.short = true ∧ (linesT zs).length ≤ 65536)) → ts = [] ∧ te = 3 := fun h => ⟨by rw [← HTS.out, linesS, HY.out, if_pos rfl, if_neg h], by rw [← HTE.out, linesE, HY.out, if_pos rfl, if_neg h]⟩
      have HBAD := Lib.hid hbad
      clear hbad
      go_wp2
      go_loopw [5, 6] (fun u i wr => ∃ (k : Nat) (s : ByteArray), k ≤ n ∧ i = .int .i64 k ∧ u = .string s ∧ s.toList = linesT (zs.take k) ∧ s.size ≤ 257 * k ∧ Below w.heap.size w wr ∧ ∀ (j : Nat) (z : LineR), j < k → zs[j]? = some z → z.short = true) (fun _ i _ => n - (intOf i).toNat)
      case atStart => exact ⟨0, ⟨#[]⟩, Nat.zero_le _, rfl, rfl, str_toList [], Nat.zero_le _, HB.out, fun j _ hj => by omega⟩
      case round =>
        obtain ⟨k, s, hk, rfl, rfl, hsl, hsz, hbel, hsh⟩ := hrel
        have HSL := Lib.hid hsl
        have HW := Lib.hid hbel
        have HSH := Lib.hid hsh
        clear hsl hsh
        by_cases hlt : k < n
        · obtain ⟨z, hz⟩ := line_some HX.out.1 hlt
          obtain ⟨a, rfl, haz⟩ := HX.out.2 k z hz
          have hw := haz.below hbel
          have hvz := List.all_eq_true.1 HY.out z (List.mem_of_getElem? hz)
          have hznk := HZN.out k z hz
          have HZ := Lib.hid hw
          have KZ := Lib.hid hz
          obtain ⟨z0, z1, _, _, _⟩ := hw
          have hblz := World.block_lt_of_cell? _ _ z0
          obtain ⟨zd, zp, zn, zc, zx⟩ := z
          dsimp only at z0 z1 hznk
          unfold LineR.valid at hvz
          simp only [Bool.and_eq_true, decide_eq_true_eq] at hvz
          obtain ⟨⟨hd0, hd1⟩, hex⟩ := hvz
          obtain ⟨m, rfl⟩ := Int.eq_ofNat_of_zero_le hd0
          have HM := Lib.hid (List.all_eq_true.1 hex)
          have HN := Lib.hid (linesT_next KZ.out)
          have hjl : (joinL zx).length ≤ 33000 := by
            have h1 := joinFrom_len zx none HM.out
            have h2 := HZ.out.toks.1
            dsimp only at h2
            have h3 : (joinL zx).length ≤ 33 * zx.length := h1
            omega
          clear hz haz hbel hex
          have hm80 : m ≤ 80 := by omega
          go_wp2
          obtain ⟨wo, rfl⟩ : ∃ wo : World, wo = wr := ⟨_, rfl⟩
          go_loop [7, 8] (fun u i => ∃ (j : Nat) (t : ByteArray), j ≤ m ∧ i = .int .i64 j ∧ u = .string t ∧ t.toList = List.replicate (2 * j) 32 ∧ t.size = 2 * j) (fun _ i => m - (intOf i).toNat)
          case atStart => exact ⟨0, ⟨#[]⟩, Nat.zero_le _, rfl, rfl, str_toList [], rfl⟩
          case round =>
            obtain ⟨j, t, hj, rfl, rfl, htl, hts⟩ := hrel
            have HTL := Lib.hid htl
            clear htl
            by_cases hjm : j < m
            · have hjm2 : (j : Int) < m := by omega
              have HTZ := Lib.hid hts
              have htb : t.size ≤ 160 := by omega
              clear hts
              go_wp2
              go_round
              case rel =>
                refine ⟨j + 1, _, by omega, by go_num, rfl, ?_, ?_⟩
                · rw [toList_append, HTL.out, spaces_two, show ([32, 32] : List UInt8) = List.replicate 2 32 from rfl, List.replicate_append_replicate, show 2 * j + 2 = 2 * (j + 1) by omega]
                · rw [ByteArray.size_append, HTZ.out]; have : (⟨#[32, 32]⟩ : ByteArray).size = 2 := rfl; omega
              case measure => simp [intOf]; omega
            · obtain rfl : j = m := by omega
              have HTZ := Lib.hid hts
              have htb : t.size ≤ 160 := by omega
              clear hts
              obtain ⟨L, hL⟩ : ∃ L, lineL j zx = L := ⟨_, rfl⟩
              have hLt : (⟨(j : Int), zp, zn, zc, zx⟩ : LineR).text = L := by rw [← hL]; rfl
              have hL2 : L = t.toList ++ joinL zx := by rw [← hL, HTL.out]; rfl
              have hLl : L.length = t.size + (joinL zx).length := by rw [hL2, List.length_append, length_toList]
              have HL2 := Lib.hid hL2
              have HLT := Lib.hid hLt
              have HJL := Lib.hid hjl
              have HLL := Lib.hid hLl
              clear hL hLt hL2 hLl hjl
              by_cases hs : L.length ≤ 256
              · have hds : decide (L.length ≤ 256) = true := decide_eq_true hs
                have HS := Lib.hid hs
                have HDS := Lib.hid hds
                have hsz2 : s.size ≤ 25700 := by
                  have : 257 * k ≤ 257 * 100 := Nat.mul_le_mul_left _ (by omega)
                  omega
                clear hs hds
                have HSZ := Lib.hid hsz
                clear hsz
                go_wp2_with (go_at_call 57; refine (rjoined_any _ _ _ zx _ HZ.out.toks hznk HM.out).mono ?_; rintro e w2 ⟨q, rfl, hq, hb2⟩; have HB2 := Lib.hid (after HW.out hb2); have hqz : q.size = (joinL zx).length := (by rw [← length_toList, hq]); have hqs : q.size ≤ 33000 := (by rw [hqz]; exact HJL.out); have htq : (t.size : Int) + q.size ≤ 256 := (by have := HLL.out; have := HS.out; omega); have HQ := Lib.hid hq; have HQZ := Lib.hid hqz; clear hb2 hq hqz)
                go_roundw
                case rel =>
                  refine ⟨k + 1, _, by omega, by go_num, rfl, ?_, ?_, HB2.out, fun i x hi hx => ?_⟩
                  · rw [toList_append, toList_append, toList_append, HSL.out, HQ.out, feed_one, HN.out, HLT.out, ← HL2.out, List.append_assoc]
                  · rw [ByteArray.size_append, ByteArray.size_append, ByteArray.size_append]
                    have h1 : (⟨#[10]⟩ : ByteArray).size = 1 := rfl
                    have h2 := HSZ.out
                    omega
                  · by_cases e : i = k
                    · subst e
                      obtain rfl := Option.some.inj (KZ.out.symm.trans hx)
                      unfold LineR.short
                      rw [HLT.out]; exact HDS.out
                    · exact HSH.out i x (by omega) hx
                case measure => simp [intOf]; omega
              · obtain ⟨e1, e2⟩ := HBAD.out (fun h => by
                  have := List.all_eq_true.1 h.1 _ (List.mem_of_getElem? KZ.out)
                  unfold LineR.short at this
                  rw [HLT.out] at this
                  exact hs (of_decide_eq_true this))
                subst e1 e2
                have HS := Lib.hid hs
                clear hs hsz
                go_wp2_with (go_at_call 57; refine (rjoined_any _ _ _ zx _ HZ.out.toks hznk HM.out).mono ?_; rintro e w2 ⟨q, rfl, hq, hb2⟩; have HB2 := Lib.hid (after HW.out hb2); have hqz : q.size = (joinL zx).length := (by rw [← length_toList, hq]); have hqs : q.size ≤ 33000 := (by rw [hqz]; exact HJL.out); have htq : (256 : Int) < (t.size : Int) + q.size := (by have := HLL.out; have := HS.out; omega); clear hb2 hq hqz)
                go_returns
                exact ⟨⟨#[]⟩, rfl, str_toList [], HB2.out⟩
        · obtain rfl : n = k := by omega
          have hall : zs.take n = zs := List.take_of_length_le (by rw [HX.out.1]; exact Nat.le_refl _)
          have hsl2 : s.toList = linesT zs := by rw [HSL.out, hall]
          have hshort : zs.all LineR.short = true := lall_yes (fun j x hj => HSH.out j x (by have := (List.getElem?_eq_some_iff.1 hj).1; have := HX.out.1; omega) hj)
          have hlenz : (linesT zs).length = s.size := by rw [← hsl2, length_toList]
          have HSL2 := Lib.hid hsl2
          clear hall hsl2 hbel
          by_cases hbig : 65536 < s.size
          · exfalso
            have : 257 * n ≤ 257 * 100 := Nat.mul_le_mul_left _ hn
            omega
          · have hgood : zs.all LineR.short = true ∧ (linesT zs).length ≤ 65536 := ⟨hshort, by omega⟩
            have e1 : ts = linesT zs := by rw [← HTS.out, linesS, HY.out, if_pos rfl, if_pos hgood]
            have e2 : te = 0 := by rw [← HTE.out, linesE, HY.out, if_pos rfl, if_pos hgood]
            have E1 := Lib.hid e1
            subst e2
            have hsm : (s.size : Int) ≤ 65536 := by omega
            clear hlenz hshort hgood e1 hbig
            go_wp2
            go_returns
            exact ⟨s, rfl, by rw [E1.out]; exact HSL2.out, HW.out⟩

end Go.Proofs.YtalbcgbfefgjfaaDoor
