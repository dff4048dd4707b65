
/-
  THE LAWS' OWN awake: the examples.
-/
import Derived.Test.YtalbcgbfefgjfaaDoorLexAw
namespace Go.Proofs.YtalbcgbfefgjfaaDoor
open Go Go.RowKit

theorem sizes_tri (xs : List Tri) (h : xs.all (fun x => decide (x.2.1.length ≤ 1000)) = true) : ∀ (i : Nat) (x : TokR), (xs.map (tkOf 0))[i]? = some x → x.t.size ≤ 9223372036854775807 := by
  intro i x hx
  rw [List.getElem?_map] at hx
  obtain ⟨y, hy, rfl⟩ := Option.map_eq_some_iff.1 hx
  have := List.all_eq_true.1 h y (List.mem_of_getElem? hy)
  rw [decide_eq_true_eq] at this
  show (str y.2.1).size ≤ _
  rw [← length_toList, str_toList]
  omega

/-- What the laws read of the library's variables. -/
structure LibOk (w : World) : Prop where
  len : MaxLenOk w
  pow : PowOk w
theorem LibOk.below {w W : World} (h : LibOk w) (hb : Below w.heap.size w W) : LibOk W := ⟨h.len.below hb, h.pow.below hb⟩

theorem name_short (s : ByteArray) (w : World) (h : s.size ≤ 1000) : Calls Tryd.prog 13 #[.string s] w (Gives w (.bool (nameB s.toList))) := name_any s w (by omega)

set_option maxRecDepth 100000 in
set_option maxHeartbeats 1000000 in
theorem awake_any (w : World) (hlib : LibOk w) : Calls Tryd.prog 19 #[] w (Gives w (.bool true)) := by
  have HL := Lib.hid hlib
  have hr1 : readL (⟨#[49, 46, 46, 51, 61, 62, 88, 39, 70, 105, 114, 115, 116, 45, 45, 46]⟩ : ByteArray).toList = .ok (ex1.map (tkOf 1)) := (congrArg readL (str_toList [49, 46, 46, 51, 61, 62, 88, 39, 70, 105, 114, 115, 116, 45, 45, 46])).trans ex1_read
  have hr2 : readL (⟨#[97, 10, 98, 32, 49, 50, 99]⟩ : ByteArray).toList = .no 2 20 := (congrArg readL (str_toList [97, 10, 98, 32, 49, 50, 99])).trans ex2_read
  have hn1 : nameB (⟨#[88, 95, 49]⟩ : ByteArray).toList = true := (congrArg nameB (str_toList [88, 95, 49])).trans (by rfl)
  have hn2 : nameB (⟨#[98, 101, 103, 105, 110]⟩ : ByteArray).toList = false := (congrArg nameB (str_toList [98, 101, 103, 105, 110])).trans (by rfl)
  have hn3 : nameB (⟨#[66, 101, 103, 105, 110]⟩ : ByteArray).toList = true := (congrArg nameB (str_toList [66, 101, 103, 105, 110])).trans (by rfl)
  have hk1 : keyB (⟨#[120, 111, 114]⟩ : ByteArray) = true := (congrArg keyL.contains (str_toList [120, 111, 114])).trans (by rfl)
  have hs1 : symB (⟨#[60, 62]⟩ : ByteArray) = true := (congrArg symL.contains (str_toList [60, 62])).trans (by rfl)
  have hs2 : symB (⟨#[45, 45]⟩ : ByteArray) = false := (congrArg symL.contains (str_toList [45, 45])).trans (by rfl)
  have HR1 := Lib.hid hr1
  have HR2 := Lib.hid hr2
  have HN1 := Lib.hid hn1
  have HN2 := Lib.hid hn2
  have HN3 := Lib.hid hn3
  have HK1 := Lib.hid hk1
  have HS1 := Lib.hid hs1
  have HS2 := Lib.hid hs2
  have HB := Lib.hid (Below.refl w.heap.size w)
  clear hlib hr1 hr2 hn1 hn2 hn3 hk1 hs1 hs2
  go_enter Tryd.func19, Tryd.ntmps19
  go_wp2_with (first
    | (go_at_call 49; refine (lname_any _ _).mono ?_; rintro e w1 ⟨rfl, hb⟩; have HB := Lib.hid (after HB.out hb); clear hb)
    | (go_at_call 41; refine (lsym_any _ _).mono ?_; rintro e w1 ⟨rfl, hb⟩; have HB := Lib.hid (after HB.out hb); clear hb)
    | (go_at_call 40; refine (linteger_any _ _).mono ?_; rintro e w1 ⟨rfl, hb⟩; have HB := Lib.hid (after HB.out hb); clear hb))
  have hb1 := HB.out.alloc HB.out.size (.cells (tokCells (ex1.map (tkOf 0))).toArray 27)
  refine (reads_yes _ _ _ _ ex1 _ ?_ ?_ ?_ ?_ HR1.out).mono ?_
  · exact toks_of_cells (World.alloc_heap_new _ _) rfl (by rfl)
  · omega
  · exact (HL.out.below hb1).len
  · decide
  rintro e w1 ⟨rfl, hb⟩
  have HB := Lib.hid (after hb1 hb)
  clear hb hb1
  go_wp2_with (first
    | (go_at_call 38; refine (fails_yes _ 2 _ (HL.out.below HB.out).len (by decide) HR2.out).mono ?_; rintro e w1 ⟨rfl, hb⟩; have HB := Lib.hid (after HB.out hb); clear hb)
    | (go_at_call 49; refine (lname_any _ _).mono ?_; rintro e w1 ⟨rfl, hb⟩; have HB := Lib.hid (after HB.out hb); clear hb)
    | (go_at_call 41; refine (lsym_any _ _).mono ?_; rintro e w1 ⟨rfl, hb⟩; have HB := Lib.hid (after HB.out hb); clear hb))
  have hb3 := HB.out.alloc HB.out.size (.cells (tokCells (ex3.map (tkOf 0))).toArray 27)
  refine (text_any _ _ _ (ex3.map (tkOf 0)) _ ?_ (sizes_tri _ (by rfl)) ?_ ?_).mono ?_
  · exact toks_of_cells (World.alloc_heap_new _ _) rfl (by rfl)
  · omega
  · exact (HL.out.below hb3).pow
  rw [ex3_text.1, ex3_text.2]
  rintro e w1 ⟨q3, rfl, hq3, hb⟩
  have HB := Lib.hid (after hb3 hb)
  clear hb hb3
  go_wp2_with (first
    | (go_at_call 49; refine (lname_any _ _).mono ?_; rintro e w1 ⟨rfl, hb⟩; have HB := Lib.hid (after HB.out hb); clear hb)
    | (go_at_call 41; refine (lsym_any _ _).mono ?_; rintro e w1 ⟨rfl, hb⟩; have HB := Lib.hid (after HB.out hb); clear hb))
  have hb4 := HB.out.alloc HB.out.size (.cells (tokCells (ex4.map (tkOf 0))).toArray 27)
  refine (text_any _ _ _ (ex4.map (tkOf 0)) _ ?_ (sizes_tri _ (by rfl)) ?_ ?_).mono ?_
  · exact toks_of_cells (World.alloc_heap_new _ _) rfl (by rfl)
  · omega
  · exact (HL.out.below hb4).pow
  rw [ex4_text.1, ex4_text.2]
  rintro e w1 ⟨q4, rfl, hq4, hb⟩
  have HB := Lib.hid (after hb4 hb)
  clear hb hb4
  go_wp2_with (first
    | (go_at_call 49; refine (lname_any _ _).mono ?_; rintro e w1 ⟨rfl, hb⟩; have HB := Lib.hid (after HB.out hb); clear hb)
    | (go_at_call 41; refine (lsym_any _ _).mono ?_; rintro e w1 ⟨rfl, hb⟩; have HB := Lib.hid (after HB.out hb); clear hb))
  have hb5 := (HB.out.alloc HB.out.size (.cells (tokCells (ex5.map (tkOf 0))).toArray 27)).alloc (by have := HB.out.size; simp; omega) (.cells #[.int .i64 1, .slice (some ⟨w1.heap.size, 0, none⟩) 2 2] 35)
  refine (lines_any _ _ _ [⟨1, some ⟨w1.heap.size, 0, none⟩, 2, 2, ex5.map (tkOf 0)⟩] _ ?_ ?_ ?_).mono ?_
  · refine ⟨rfl, fun i z hz => ?_⟩
    obtain rfl : i = 0 := by
      have := (List.getElem?_eq_some_iff.1 hz).1
      simp at this; omega
    simp at hz
    subst hz
    refine ⟨_, rfl, ?_⟩
    have ea : ∀ g, (⟨g, 0, none⟩ : Addr).add (0 * 2) = ⟨g, 0, none⟩ := fun g => by simp [Addr.add]
    rw [ea]
    refine ⟨by go_cell, by go_cell, ?_, sizes_tri _ (by rfl), (by show 2 ≤ 4611686018427387904; omega)⟩
    exact toks_of_cells ((Below.heap_alloc _ _ _ (by simp)).trans (World.alloc_heap_new _ _)) rfl (by rfl)
  · omega
  · exact (HL.out.below hb5).pow
  rw [(ex5_lines _ _ _).1, (ex5_lines _ _ _).2]
  rintro e w2 ⟨q5, rfl, hq5, hb⟩
  have HB := Lib.hid (after hb5 hb)
  clear hb hb5
  go_wp2_with (first
    | (go_at_call 13; refine (name_short _ _ (by decide)).mono ?_; (first | rw [HN1.out] | rw [HN2.out] | rw [HN3.out]); rintro e w1 ⟨rfl, hb⟩; have HB := Lib.hid (after HB.out hb); clear hb)
    | (go_at_call 15; refine (key_any _ _).mono ?_; rw [HK1.out]; rintro e w1 ⟨rfl, rfl⟩)
    | (go_at_call 17; refine (symbol_any _ _).mono ?_; (first | rw [HS1.out] | rw [HS2.out]); rintro e w1 ⟨rfl, rfl⟩))
  go_returns
  exact ⟨rfl, HB.out⟩

end Go.Proofs.YtalbcgbfefgjfaaDoor
