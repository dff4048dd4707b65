
/-
  THE LAW LexNumbers: its walk.
-/
import Derived.Test.YtfcinienehpkjaaDoorLexNm
import Derived.Test.YtfcinienehpkjaaDoorLexAk
import Derived.Test.YtfcinienehpkjaaDoorLexOp
import Derived.Test.YtfcinienehpkjaaDoorLexRt
namespace Go.Proofs.YtfcinienehpkjaaDoor
open Go Go.RowKit

theorem dot_one : (⟨#[46]⟩ : ByteArray).toList = [46] := str_toList [46]
theorem dots_two : (⟨#[46, 46]⟩ : ByteArray).toList = [46, 46] := str_toList [46, 46]
theorem plus_one : (⟨#[43]⟩ : ByteArray).toList = [43] := str_toList [43]
theorem under_one : (⟨#[95]⟩ : ByteArray).toList = [95] := str_toList [95]
theorem ex_one : (⟨#[120]⟩ : ByteArray).toList = [120] := str_toList [120]
theorem digs_zero (m : Nat) : digs 0 m = decL m := rfl
theorem zeros_any (c : Nat) (w : World) (hc : c ≤ 10) : Calls Tryd.prog 36 #[.string ⟨#[48]⟩, .int .i64 c] w (GivesStr w (List.replicate c 48)) :=
  (Tryd.strings_Repeat ⟨#[48]⟩ c w (by omega) (by show 1 * c ≤ _; omega)).mono fun e w' ⟨he, hb⟩ => ⟨_, he, by rw [← repeatL_zero]; exact str_toList _, hb⟩
theorem decimal_any (n : Nat) (w : World) (h1 : n ≤ 9223372036854775807) (ht : PowOk w) : Calls Tryd.prog 37 #[.int .i64 n, .int .i64 10] w (GivesStr w (decL n)) := by
  have := format_any (n : Int) w (by omega) (by omega) ht
  rw [itoa_dec (by omega), Int.toNat_natCast] at this
  exact this

set_option maxRecDepth 100000 in
set_option maxHeartbeats 4000000 in
theorem law_lexNumbers (v zc : Int) (w : World) (L : LibOk w) (hv : 0 ≤ v ∧ v ≤ 4294967295) (hz : 0 ≤ zc ∧ zc ≤ 255) : Calls Tryd.prog 12 #[.int .u32 v, .int .u8 zc] w (Gives w (.bool true)) := by
  obtain ⟨n, hn⟩ : ∃ n : Nat, v % 2147483648 = n := ⟨(v % 2147483648).toNat, by omega⟩
  obtain ⟨z, hzn⟩ : ∃ z : Nat, zc % 11 = z := ⟨(zc % 11).toNat, by omega⟩
  have hn31 : n ≤ 2147483647 := by omega
  have hz10 : z ≤ 10 := by omega
  have HL := Lib.hid L
  have HB0 := Lib.hid (Below.refl w.heap.size w)
  have hds := decL_len 9 n (by omega)
  clear L
  by_cases hlong : 10 < (digs z n).length
  · have hdl : (digs z n).length ≤ 1000 := by unfold digs; rw [List.length_append, List.length_replicate]; omega
    have HR := Lib.hid (num_long hdl (by omega))
    go_enter Tryd.func12, Tryd.ntmps12
    go_wp2_with (first
      | (go_at_call 36; refine (zeros_any z _ hz10).mono ?_; rintro e w1 ⟨q1, rfl, hq1, hb⟩; have HB1 := Lib.hid hb; have hs1 : q1.size = z := (by rw [← length_toList, hq1, List.length_replicate]); have HQ1 := Lib.hid hq1; clear hb hq1)
      | (go_at_call 37; refine (decimal_any n _ (by omega) (HL.out.below HB1.out).pow).mono ?_; rintro e w2 ⟨q2, rfl, hq2, hb⟩; have HB2 := Lib.hid (after HB1.out hb); have hs2 : q2.size ≤ 10 := (by rw [← length_toList, hq2]; exact hds); have hq12 : (q1 ++ q2).toList = digs z n := (by rw [toList_append, HQ1.out, hq2]; rfl); have hsz : (q1 ++ q2).size = (digs z n).length := (by rw [← hq12, length_toList]); have HQ12 := Lib.hid hq12; have HSZ := Lib.hid hsz; have hbig : (10 : Int) < (q1.size : Int) + q2.size := (by rw [ByteArray.size_append] at hsz; omega); clear hb hq2 hq12 hsz)
      | (go_at_call 38; refine (fails_yes _ 1 _ (HL.out.below HB2.out).len (by rw [HSZ.out]; exact hdl) (by rw [HQ12.out]; exact HR.out)).mono ?_; rintro e w3 ⟨rfl, hb⟩; have HB3 := Lib.hid (after HB2.out hb); clear hb)
      | (go_at_call 19; refine (awake_any _ (HL.out.below HB3.out)).mono ?_; rintro e w4 ⟨rfl, hb⟩; have HB4 := Lib.hid (after HB3.out hb); clear hb))
    go_returns
    exact ⟨rfl, HB4.out⟩
  · have hd10 : (digs z n).length ≤ 10 := by omega
    have HR1 := Lib.hid (num_one ⟨hd10, hn31⟩)
    have HR2 := Lib.hid (num_dot ⟨hd10, hn31⟩)
    have HR3 := Lib.hid (num_plus ⟨hd10, hn31⟩)
    have HR4 := Lib.hid (num_behind hd10 (c := 95) (by decide) (by decide))
    have HR5 := Lib.hid (num_behind hd10 (c := 120) (by decide) (by decide))
    have hd0 : digs 0 (n + 2147483648) = decL (n + 2147483648) := digs_zero _
    have hl6 : (digs 0 (n + 2147483648)).length ≤ 1000 := by rw [hd0]; have := decL_len 9 (n + 2147483648) (by omega); omega
    have HL6 := Lib.hid hl6
    have HR6 := Lib.hid (num_long hl6 (by omega))
    have HF := Lib.hid (show Lib.itoa ((n : Int) + 2147483648) = digs 0 (n + 2147483648) by rw [itoa_dec (by omega), hd0, show ((n : Int) + 2147483648).toNat = n + 2147483648 by omega])
    have HD := Lib.hid hd10
    clear hd0 hl6 hlong hd10
    have HB := HB0
    clear HB0
    go_enter Tryd.func12, Tryd.ntmps12
    go_wp2_with (first
      | (go_at_call 36; refine (zeros_any z _ hz10).mono ?_; rintro e w1 ⟨q1, rfl, hq1, hb⟩; have HB1 := Lib.hid hb; have HB := Lib.hid hb; have hs1 : q1.size = z := (by rw [← length_toList, hq1, List.length_replicate]); have HQ1 := Lib.hid hq1; clear hb hq1)
      | (go_at_call 37; refine (decimal_any n _ (by omega) (HL.out.below HB1.out).pow).mono ?_; rintro e w2 ⟨q2, rfl, hq2, hb⟩; have HB := Lib.hid (after HB1.out hb); have hs2 : q2.size ≤ 10 := (by rw [← length_toList, hq2]; exact hds); have hq12 : (q1 ++ q2).toList = digs z n := (by rw [toList_append, HQ1.out, hq2]; rfl); have hsz : (q1 ++ q2).size = (digs z n).length := (by rw [← hq12, length_toList]); have HQ12 := Lib.hid hq12; have hsm : (q1.size : Int) + q2.size ≤ 10 := (by rw [ByteArray.size_append] at hsz; have := HD.out; omega); clear hb hq2 hq12 hsz HB1 HQ1)
      | (go_at_call 40; refine (linteger_any _ _).mono ?_; rintro e w1 ⟨rfl, hb⟩; have HB := Lib.hid (after HB.out hb); clear hb))
    have hb1 := HB.out.alloc HB.out.size (.cells (tokCells ([((3, [], (n : Int)) : Tri)].map (tkOf 0))).toArray 27)
    refine (reads_yes _ _ _ _ [((3, [], (n : Int)) : Tri)] _ ?_ ?_ ?_ ?_ (by rw [HQ12.out]; exact HR1.out)).mono ?_
    · exact toks_of_cells (World.alloc_heap_new _ _) rfl (by rfl)
    · omega
    · exact (HL.out.below hb1).len
    · rw [ByteArray.size_append]; omega
    rintro e w1 ⟨rfl, hb⟩
    have HB := Lib.hid (after hb1 hb)
    clear hb hb1
    go_wp2_with (first
      | (go_at_call 40; refine (linteger_any _ _).mono ?_; rintro e w1 ⟨rfl, hb⟩; have HB := Lib.hid (after HB.out hb); clear hb)
      | (go_at_call 41; refine (lsym_any _ _).mono ?_; rintro e w1 ⟨rfl, hb⟩; have HB := Lib.hid (after HB.out hb); clear hb))
    have hb1 := HB.out.alloc HB.out.size (.cells (tokCells ([((3, [], (n : Int)) : Tri), (4, [46], 0)].map (tkOf 0))).toArray 27)
    refine (reads_yes _ _ _ _ [((3, [], (n : Int)) : Tri), (4, [46], 0)] _ ?_ ?_ ?_ ?_ (by rw [toList_append, HQ12.out, dot_one]; exact HR2.out)).mono ?_
    · exact toks_of_cells (World.alloc_heap_new _ _) rfl (by rfl)
    · omega
    · exact (HL.out.below hb1).len
    · rw [ByteArray.size_append, ByteArray.size_append]; have : (⟨#[46]⟩ : ByteArray).size = 1 := rfl; omega
    rintro e w1 ⟨rfl, hb⟩
    have HB := Lib.hid (after hb1 hb)
    clear hb hb1
    go_wp2_with (first
      | (go_at_call 40; refine (linteger_any _ _).mono ?_; rintro e w1 ⟨rfl, hb⟩; have HB := Lib.hid (after HB.out hb); clear hb)
      | (go_at_call 41; refine (lsym_any _ _).mono ?_; rintro e w1 ⟨rfl, hb⟩; have HB := Lib.hid (after HB.out hb); clear hb))
    have hb1 := HB.out.alloc HB.out.size (.cells (tokCells ([((4, [43], 0) : Tri), (3, [], (n : Int)), (4, [46, 46], 0)].map (tkOf 0))).toArray 27)
    refine (reads_yes _ _ _ _ [((4, [43], 0) : Tri), (3, [], (n : Int)), (4, [46, 46], 0)] _ ?_ ?_ ?_ ?_ (by rw [toList_append, toList_append, HQ12.out, dots_two, plus_one]; exact HR3.out)).mono ?_
    · exact toks_of_cells (World.alloc_heap_new _ _) rfl (by rfl)
    · omega
    · exact (HL.out.below hb1).len
    · rw [ByteArray.size_append, ByteArray.size_append, ByteArray.size_append]; have : (⟨#[46, 46]⟩ : ByteArray).size = 2 := rfl; have : (⟨#[43]⟩ : ByteArray).size = 1 := rfl; omega
    rintro e w1 ⟨rfl, hb⟩
    have HB := Lib.hid (after hb1 hb)
    clear hb hb1 HR1 HR2 HR3
    go_wp2_with (first
      | (have K := HR4.out; go_at_call 38; refine (fails_yes _ 1 _ (HL.out.below HB.out).len (by rw [ByteArray.size_append, ByteArray.size_append]; have : (⟨#[95]⟩ : ByteArray).size = 1 := rfl; omega) (by rw [toList_append, HQ12.out, under_one]; exact K)).mono ?_; clear HR4 K; rintro e w3 ⟨rfl, hb⟩; have HB := Lib.hid (after HB.out hb); clear hb)
      | (have K := HR5.out; go_at_call 38; refine (fails_yes _ 1 _ (HL.out.below HB.out).len (by rw [ByteArray.size_append, ByteArray.size_append]; have : (⟨#[120]⟩ : ByteArray).size = 1 := rfl; omega) (by rw [toList_append, HQ12.out, ex_one]; exact K)).mono ?_; clear HR5 K; rintro e w3 ⟨rfl, hb⟩; have HB := Lib.hid (after HB.out hb); clear hb)
      | (have K := HF.out; go_at_call 37; refine (format_any ((n : Int) + 2147483648) _ (by omega) (by omega) (HL.out.below HB.out).pow).mono ?_; rw [K]; clear HF K; rintro e w3 ⟨q3, rfl, hq3, hb⟩; have HB := Lib.hid (after HB.out hb); have HQ3 := Lib.hid hq3; clear hb hq3)
      | (have K := HR6.out; go_at_call 38; refine (fails_yes _ 1 _ (HL.out.below HB.out).len (by rw [← length_toList, HQ3.out]; exact HL6.out) (by rw [HQ3.out]; exact K)).mono ?_; clear HR6 K; rintro e w3 ⟨rfl, hb⟩; have HB := Lib.hid (after HB.out hb); clear hb)
      | (go_at_call 19; refine (awake_any _ (HL.out.below HB.out)).mono ?_; rintro e w3 ⟨rfl, hb⟩; have HB := Lib.hid (after HB.out hb); clear hb))
    go_returns
    exact ⟨rfl, HB.out⟩

end Go.Proofs.YtfcinienehpkjaaDoor
