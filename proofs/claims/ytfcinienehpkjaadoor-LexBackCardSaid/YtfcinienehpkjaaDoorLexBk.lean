
/-
  THE LAW LexBack: its walk.
-/
import Derived.Test.YtfcinienehpkjaaDoorLexKn
import Derived.Test.YtfcinienehpkjaaDoorLexAk
import Derived.Test.YtfcinienehpkjaaDoorLexOp
import Derived.Test.YtfcinienehpkjaaDoorLexLm
namespace Go.Proofs.YtfcinienehpkjaaDoor
open Go Go.RowKit

set_option maxRecDepth 100000 in
set_option maxHeartbeats 4000000 in
theorem law_lexBack (ap : Option Addr) (an ac : Nat) (w : World) (L : LibOk w) (ha : TokensIn w ap an) : Calls Tryd.prog 7 #[.slice ap an ac] w (Gives w (.bool true)) := by
  obtain ⟨_, xs, hx, hxs⟩ := ha
  have HL := Lib.hid L
  have HX := Lib.hid hx
  have HXS := Lib.hid hxs
  clear L hx hxs
  by_cases h1 : 400 < an
  · go_enter Tryd.func7, Tryd.ntmps7
    go_wp2_with (first
      | (go_at_call 19; refine (awake_any _ HL.out).mono ?_; rintro e w1 ⟨rfl, hb⟩; have HB := Lib.hid hb; clear hb))
    go_returns
    exact ⟨rfl, HB.out⟩
  · have ha4 : an ≤ 400 := by omega
    obtain ⟨zs, hzs⟩ : ∃ zs, xs.filter mayT = zs := ⟨_, rfl⟩
    have hmay : ∀ z ∈ zs, mayT z = true := fun z hz => by rw [← hzs] at hz; exact (List.mem_filter.1 hz).2
    have hall : zs.all mayT = true := List.all_eq_true.2 hmay
    obtain ⟨nz, hnz⟩ : ∃ nz, zs.length = nz := ⟨_, rfl⟩
    have hnz4 : nz ≤ 400 := by rw [← hnz, ← hzs]; exact Nat.le_trans (List.length_filter_le _ _) (by have := HX.out.1; omega)
    have hzsz : ∀ (i : Nat) (z : TokR), zs[i]? = some z → z.t.size ≤ 9223372036854775807 := fun i z hz => by
      have hm := List.mem_of_getElem? hz
      rw [← hzs] at hm
      obtain ⟨j, hj⟩ := List.mem_iff_getElem?.1 (List.mem_filter.1 hm).1
      exact HXS.out j z hj
    have HZ := Lib.hid hzs
    have HMAY := Lib.hid hmay
    have HNZ := Lib.hid hnz
    have HZS := Lib.hid hzsz
    clear h1 hzs hmay hnz hzsz
    by_cases hno : (joinL zs).length ≤ 256
    · have hts : textS zs = joinL zs := by rw [textS, hall, if_pos rfl, if_pos hno]
      have hte : textE zs = 0 := by rw [textE, hall, if_pos rfl, if_pos hno]
      have hrb := read_back HMAY.out (by have := HNZ.out; omega) (by omega : (joinL zs).length ≤ 65536)
      have hml : (zs.map atOne).length = nz := by rw [List.length_map, HNZ.out]
      have HTS := Lib.hid hts
      have HTE := Lib.hid hte
      have HRB := Lib.hid hrb
      have HML := Lib.hid hml
      have HNO := Lib.hid hno
      clear hts hte hrb hml hall hno
      go_enter Tryd.func7, Tryd.ntmps7
      go_wp2_with (first
        | (go_at_call 31; refine (known_any _ _ _ xs _ HX.out HXS.out ha4).mono ?_; rw [HZ.out]; rintro e w1 ⟨q1, c1, rfl, hrow, hb⟩; rw [HNZ.out] at hrow; rw [HNZ.out]; have HB1 := Lib.hid hb; have HK := Lib.hid (toks_of_row hrow HNZ.out); clear hrow hb)
        | (go_at_call 27; refine (text_any _ _ _ zs _ HK.out HZS.out (by omega) (HL.out.below HB1.out).pow).mono ?_; rw [HTS.out, HTE.out]; rintro e w2 ⟨s, rfl, hs, hb⟩; have HK2 := Lib.hid (HK.out.below hb); have HB2 := Lib.hid (after HB1.out hb); have HS := Lib.hid hs; have hsz : s.size ≤ 256 := (by rw [← length_toList, hs]; exact HNO.out); clear hs hb)
        | (go_at_call 24; refine (tokens_reads _ _ (HL.out.below HB2.out).len (by omega)).mono ?_; rw [HS.out, HRB.out]; rintro e w3 ⟨q3, c3, rfl, hrow, hb⟩; have HK3 := Lib.hid (HK2.out.below hb); have HB3 := Lib.hid (after HB2.out hb); simp only [Rd.toks, HML.out] at hrow; have HT := Lib.hid (toks_of_row hrow HML.out); simp only [Rd.toks, Rd.line, Rd.err, HML.out]; clear hrow hb))
      go_loopw [45] (fun i wr => ∃ k : Nat, k ≤ nz ∧ i = .int .i64 k ∧ Below w3.heap.size w3 wr) (fun i _ => nz - (intOf i).toNat)
      case atStart => exact ⟨0, Nat.zero_le _, rfl, Below.refl _ _⟩
      case round =>
        obtain ⟨k, hk, rfl, hbel⟩ := hrel
        have HW := Lib.hid hbel
        by_cases hlt : k < nz
        · obtain ⟨x, hx⟩ := list_at (xs := zs) (k := k) (by rw [HNZ.out]; exact hlt)
          obtain ⟨ad, rfl, hax⟩ := HT.out.2 k (atOne x) (by rw [List.getElem?_map, hx]; rfl)
          obtain ⟨x0, x1, x2, x3⟩ := hax.below hbel
          have hblx := World.block_lt_of_cell? _ _ x0
          obtain ⟨xk, xl, xt, xn⟩ := x
          dsimp only [atOne] at x0 x1 x2 x3
          have hal := (Below.refl wr.heap.size wr).alloc (Nat.le_refl _) (.cells #[.int .u8 xk, .int .i64 1, .string xt, .int .i64 xn] 27)
          have HB5 := Lib.hid (after HW.out hal)
          clear hx hax hal hbel
          go_wp2
          go_roundw
          case rel => exact ⟨k + 1, by omega, by go_num, HB5.out⟩
          case measure => simp [intOf]; omega
        · obtain rfl : nz = k := by omega
          have HW3 := Lib.hid (after HB3.out hbel)
          clear hbel
          go_wp2_with (first
            | (go_at_call 22; refine (same_any _ _ _ _ _ _ zs (zs.map atOne) _ (HK3.out.below HW.out) (HT.out.below HW.out) (by omega) (by omega)).mono ?_; rw [like_one]; rintro e w5 ⟨rfl, hb⟩; have HB5 := Lib.hid (after HW3.out hb); clear hb)
            | (go_at_call 19; refine (awake_any _ (HL.out.below HB5.out)).mono ?_; rintro e w6 ⟨rfl, hb⟩; have HB6 := Lib.hid (after HB5.out hb); clear hb))
          go_returns
          exact ⟨rfl, HB6.out⟩
    · have hts : textS zs = [] := by rw [textS, hall, if_pos rfl, if_neg hno]
      have hte : textE zs = 3 := by rw [textE, hall, if_pos rfl, if_neg hno]
      have hnz7 : 7 < nz := by
        have := joinFrom_len33 zs none HMAY.out
        have h3 : (joinL zs).length = (joinFrom none zs).length := rfl
        have := HNZ.out
        omega
      have HTS := Lib.hid hts
      have HTE := Lib.hid hte
      clear hts hte hall hno
      go_enter Tryd.func7, Tryd.ntmps7
      go_wp2_with (first
        | (go_at_call 31; refine (known_any _ _ _ xs _ HX.out HXS.out ha4).mono ?_; rw [HZ.out]; rintro e w1 ⟨q1, c1, rfl, hrow, hb⟩; rw [HNZ.out] at hrow; rw [HNZ.out]; have HB1 := Lib.hid hb; have HK := Lib.hid (toks_of_row hrow HNZ.out); clear hrow hb)
        | (go_at_call 27; refine (text_any _ _ _ zs _ HK.out HZS.out (by omega) (HL.out.below HB1.out).pow).mono ?_; rw [HTS.out, HTE.out]; rintro e w2 ⟨s, rfl, hs, hb⟩; have HB2 := Lib.hid (after HB1.out hb); obtain rfl : s = ⟨#[]⟩ := ba_ext (hs.trans (str_toList []).symm); clear hs hb)
        | (go_at_call 19; refine (awake_any _ (HL.out.below HB2.out)).mono ?_; rintro e w6 ⟨rfl, hb⟩; have HB6 := Lib.hid (after HB2.out hb); clear hb))
      go_returns
      exact ⟨rfl, HB6.out⟩

end Go.Proofs.YtfcinienehpkjaaDoor
