
/-
  'hull' of package num: the hull of an operator's values for some operands of each side.
-/
import Derived.Test.YtdbfaekdkjclcaaDoorNumH
namespace Go.Proofs.YtdbfaekdkjclcaaDoor
open Go Go.RowKit

/-- The values for all operands, row by row, and whether all of them are exact. -/
def rowV (op x : Int) (ys : List Int) : List Int := ys.map (opVal op x)
def rowF (op x : Int) (ys : List Int) : Bool := ys.all (opFits op x)
def valsV (op : Int) (xs ys : List Int) : List Int := xs.flatMap fun x => rowV op x ys
def fitsV (op : Int) (xs ys : List Int) : Bool := xs.all fun x => rowF op x ys
def hullV (op : Int) (xs ys : List Int) : Value :=
  if fitsV op xs ys = true then iv (minL ((valsV op xs ys).getD 0 0) (valsV op xs ys)) (maxL ((valsV op xs ys).getD 0 0) (valsV op xs ys)) else iv (-9223372036854775808) 9223372036854775807

theorem rowV_snoc (op x : Int) (ys : List Int) (k : Nat) (h : k < ys.length) : rowV op x (ys.take (k + 1)) = rowV op x (ys.take k) ++ [opVal op x (ys.getD k 0)] := by
  rw [take_snoc_int ys k h, rowV, List.map_append]; rfl
theorem rowF_snoc (op x : Int) (ys : List Int) (k : Nat) (h : k < ys.length) : rowF op x (ys.take (k + 1)) = (rowF op x (ys.take k) && opFits op x (ys.getD k 0)) := by
  rw [take_snoc_int ys k h, rowF, List.all_append]; simp [rowF]
theorem valsV_snoc (op : Int) (xs ys : List Int) (k : Nat) (h : k < xs.length) : valsV op (xs.take (k + 1)) ys = valsV op (xs.take k) ys ++ rowV op (xs.getD k 0) ys := by
  rw [take_snoc_int xs k h, valsV, List.flatMap_append]; simp [valsV]
theorem fitsV_snoc (op : Int) (xs ys : List Int) (k : Nat) (h : k < xs.length) : fitsV op (xs.take (k + 1)) ys = (fitsV op (xs.take k) ys && rowF op (xs.getD k 0) ys) := by
  rw [take_snoc_int xs k h, fitsV, List.all_append]; simp [fitsV]
theorem length_rowV (op x : Int) (ys : List Int) : (rowV op x ys).length = ys.length := by simp [rowV]
theorem length_valsV (op : Int) (ys : List Int) : ∀ xs : List Int, (valsV op xs ys).length = xs.length * ys.length
  | [] => by simp [valsV]
  | x :: xs => by
    have := length_valsV op ys xs
    simp only [valsV, List.flatMap_cons, List.length_append, length_rowV, List.length_cons] at *
    rw [this, Nat.add_mul, Nat.one_mul, Nat.add_comm]

/-- A slice of integers in memory. -/
def Ints (w : World) (b n : Nat) (zs : List Int) : Prop := zs.length = n ∧ ∀ i, i < n → w.cell? ⟨b, i, none⟩ = some (.int .i64 (zs.getD i 0))
theorem Ints.below {w w' : World} {b n : Nat} {zs : List Int} {B : Nat} (h : Ints w b n zs) (hb : Below B w w') (hB : b < B) : Ints w' b n zs :=
  ⟨h.1, fun i hi => by rw [hb.cell (p := ⟨b, i, none⟩) hB]; exact h.2 i hi⟩
theorem Ints.lt {w : World} {b n : Nat} {zs : List Int} (h : Ints w b n zs) (hn : 1 ≤ n) : b < w.heap.size := block_lt_of_cell (h.2 0 (by omega))

theorem HullInv.start (fv : Value) (w : World) : HullInv w.heap.size fv true [] ((((w.alloc (.cells #[fv] 41)).alloc (.cells #[.int .i64 0, .int .i64 0] 24)).alloc (.cells #[.slice none 0 0] 45)).alloc (.cells #[.bool true] 4)) := by
  have e : ((((w.alloc (.cells #[fv] 41)).alloc (.cells #[.int .i64 0, .int .i64 0] 24)).alloc (.cells #[.slice none 0 0] 45)).alloc (.cells #[.bool true] 4)).heap
      = (((w.heap.push (.cells #[fv] 41)).push (.cells #[.int .i64 0, .int .i64 0] 24)).push (.cells #[.slice none 0 0] 45)).push (.cells #[.bool true] 4) := rfl
  refine ⟨?_, ?_, ⟨.slice none 0 0, ?_, World.ownsRow_nil _ _ _ _⟩, ?_⟩
  · rw [e]; simp only [Array.getElem?_push, Array.size_push]; rw [if_neg (by omega), if_neg (by omega), if_neg (by omega), if_pos trivial]
  · rw [e]; simp only [Array.getElem?_push, Array.size_push]; rw [if_neg (by omega), if_neg (by omega), if_pos trivial]
  · rw [e]; simp only [Array.getElem?_push, Array.size_push]; rw [if_neg (by omega), if_pos trivial]
  · rw [e]; simp only [Array.getElem?_push, Array.size_push]; rw [if_pos trivial]

theorem cells_two {w : World} {b : Nat} {u v : Value} {t : TypeId} (h : w.heap[b]? = some (.cells #[u, v] t (0, 0))) : w.cell? ⟨b, 0, none⟩ = some u ∧ w.cell? ⟨b, 1, none⟩ = some v ∧ w.frozen? ⟨b, 0, none⟩ = false ∧ w.frozen? ⟨b, 1, none⟩ = false := by
  simp [World.cell?, World.frozen?, h]

theorem mem_getD {xs : List Int} {m : Nat} (h : m < xs.length) : xs.getD m 0 ∈ xs := by
  rw [List.getD_eq_getElem?_getD, List.getElem?_eq_getElem h]; exact List.getElem_mem h

set_option maxHeartbeats 2000000 in
theorem hull_any (k : Nat) (op : Int) (bx nx cx bY ny cy : Nat) (xs ys : List Int) (w : World) (hent : Enters k) (hf : ∀ x ∈ xs, ∀ y ∈ ys, ∀ w, Calls Tryd.prog k #[.int .i64 x, .int .i64 y] w (OpGives w op x y))
    (hx : Ints w bx nx xs) (hy : Ints w bY ny ys) (h1 : 1 ≤ nx) (h2 : 1 ≤ ny) (h3 : nx ≤ 10) (h4 : ny ≤ 10) (L : Laid w) :
    Calls Tryd.prog 25 #[.func (.func k) #[] #[], .slice (some ⟨bx, 0, none⟩) nx cx, .slice (some ⟨bY, 0, none⟩) ny cy] w (Gives w (hullV op xs ys)) := by
  have hbx := hx.lt h1
  have hby := hy.lt h2
  have HX := Lib.hid hx
  have HY := Lib.hid hy
  have HF := Lib.hid hf
  have HE := Lib.hid hent
  have HL := Lib.hid L
  clear hx hy hf hent L
  go_enter Tryd.func25, Tryd.ntmps25
  go_wp2
  go_loopw [17] (fun i wr => ∃ m : Nat, m ≤ nx ∧ i = .int .i64 m ∧ HullInv w.heap.size (.func (.func k) #[] #[]) (fitsV op (xs.take m) ys) (valsV op (xs.take m) ys) wr ∧ Below w.heap.size w wr) (fun i _ => nx - (intOf i).toNat)
  case atStart => exact ⟨0, Nat.zero_le _, rfl, HullInv.start _ w, by go_grown⟩
  case round =>
    obtain ⟨m, hm, rfl, hinv, hbel⟩ := hrel
    obtain ⟨wo, rfl⟩ : ∃ wo : World, wo = wr := ⟨_, rfl⟩
    have HI := Lib.hid hinv
    have HB := Lib.hid hbel
    clear hinv hbel
    by_cases hlt : m < nx
    · have cX := (HX.out.below HB.out hbx).2 m hlt
      have hxm : Hid (xs.getD m 0 ∈ xs) := mem_getD (by rw [HX.out.1]; exact hlt)
      have HVS := Lib.hid (valsV_snoc op xs ys m (by rw [HX.out.1]; exact hlt))
      have HFS := Lib.hid (fitsV_snoc op xs ys m (by rw [HX.out.1]; exact hlt))
      have HLen := Lib.hid (length_valsV op ys (xs.take m))
      generalize xs.getD m 0 = x at cX hxm HVS HFS
      go_wp2
      go_loopw [23] (fun j wi => ∃ l : Nat, l ≤ ny ∧ j = .int .i64 l ∧ HullInv w.heap.size (.func (.func k) #[] #[]) (fitsV op (xs.take m) ys && rowF op x (ys.take l)) (valsV op (xs.take m) ys ++ rowV op x (ys.take l)) wi ∧ Below w.heap.size w wi) (fun j _ => ny - (intOf j).toNat)
      case atStart => exact ⟨0, Nat.zero_le _, rfl, by simpa [rowF, rowV] using HI.out, HB.out⟩
      case round =>
        obtain ⟨l, hl, rfl, hinv, hbel⟩ := hrel
        have HI2 := Lib.hid hinv
        have HB2 := Lib.hid hbel
        clear hinv hbel
        by_cases hlt2 : l < ny
        · have cY := (HY.out.below HB2.out hby).2 l hlt2
          have hym : Hid (ys.getD l 0 ∈ ys) := mem_getD (by rw [HY.out.1]; exact hlt2)
          have HV2 := Lib.hid (rowV_snoc op x ys l (by rw [HY.out.1]; exact hlt2))
          have HF2 := Lib.hid (rowF_snoc op x ys l (by rw [HY.out.1]; exact hlt2))
          generalize ys.getD l 0 = y at cY hym HV2 HF2
          have hlen : Hid ((valsV op (xs.take m) ys ++ rowV op x (ys.take l)).length ≤ 1000) := by
            show _ ≤ _
            rw [List.length_append, HLen.out, length_rowV, HY.out.1, List.length_take, List.length_take, HX.out.1, HY.out.1]
            have e1 : min m nx ≤ 10 := by omega
            have e2 : min m nx * ny ≤ 10 * 10 := Nat.mul_le_mul e1 h4
            omega
          go_wp2_with (go_at_call 51; refine (note_any _ k op x y _ _ _ HE.out (HF.out x hxm.out y hym.out) hlen.out HI2.out).mono ?_; rintro e w2 ⟨rfl, hin2, hbe2⟩; have HI3 := Lib.hid hin2; have HB3 := Lib.hid hbe2; clear hin2 hbe2)
          go_roundw
          case rel => exact ⟨l + 1, by omega, by go_num, by rw [HF2.out, HV2.out, ← Bool.and_assoc, ← List.append_assoc]; exact HI3.out, HB2.out.trans HB3.out⟩
          case measure => simp [intOf]; omega
        · obtain rfl : l = ny := by omega
          go_wp2
          go_roundw
          case rel => exact ⟨m + 1, by omega, by go_num, by have hh := HI2.out; rw [List.take_of_length_le (Nat.le_of_eq HY.out.1)] at hh; rw [HVS.out, HFS.out]; exact hh, HB2.out⟩
          case measure => simp [intOf]; omega
    · obtain rfl : m = nx := by omega
      have hI := HI.out
      rw [List.take_of_length_le (Nat.le_of_eq HX.out.1)] at hI
      have HI2 := Lib.hid hI
      clear hI HI
      have hsz := HI2.out.size
      have cT := cell_of_one HI2.out.tb
      obtain ⟨r0, r1, q0, q1⟩ := cells_two HI2.out.rb
      have hLo := HL.out.after HB.out
      have u0 := hLo.f0
      have u1 := hLo.f1
      have hs1 : 2 < wo.heap.size := by have := hLo.size; omega
      clear hLo
      have EV : Hid (hullV op xs ys = if fitsV op xs ys = true then iv (minL ((valsV op xs ys).getD 0 0) (valsV op xs ys)) (maxL ((valsV op xs ys).getD 0 0) (valsV op xs ys)) else iv (-9223372036854775808) 9223372036854775807) := rfl
      have hlen : Hid ((valsV op xs ys).length = m * ny) := by show _ = _; rw [length_valsV, HX.out.1, HY.out.1]
      cases hft : fitsV op xs ys
      · rw [hft] at cT EV
        clear hft
        go_wp2
        refine bodyPost_ret (v := .agg #[.int .i64 (-9223372036854775808), .int .i64 9223372036854775807]) (by simp [results, Tryd.results25, go_sem, *]) rfl ⟨by rw [EV.out, if_neg (by simp)]; rfl, ?_⟩
        exact Below.setCell (Below.setCell HB.out (by simp) _) (by simp) _
      · rw [hft] at cT EV
        clear hft u0 u1 hs1
        obtain ⟨v, hv, ho⟩ := HI2.out.vb
        have hpos : 1 ≤ m * ny := Nat.mul_le_mul h1 h2
        rw [hlen.out] at ho
        obtain ⟨n, hn⟩ : ∃ n, m * ny = n + 1 := ⟨m * ny - 1, by omega⟩
        have hn2 : Hid (n + 1 ≤ 100) := by
          show _ ≤ _
          rw [← hn]
          exact Nat.mul_le_mul h3 h4
        have hlen2 : Hid ((valsV op xs ys).length = n + 1) := hlen.out.trans hn
        rw [hn] at ho
        obtain ⟨g, cap, rfl⟩ := row_some ho
        clear hlen hn hpos
        generalize valsV op xs ys = zs at ho hlen2 HI2 EV
        have hgB := (ho.lt g rfl).1
        have HC : Hid (∀ i, i < n + 1 → wo.cell? ⟨g, i, none⟩ = some (.int .i64 (zs.getD i 0))) := by
          intro i hi
          rw [ho.cellAt i (by omega), List.getElem?_map, List.getD_eq_getElem?_getD, List.getElem?_eq_getElem (by rw [hlen2.out]; exact hi)]
          rfl
        have HCd : Hid (∀ i, i < n + 1 → wo.drew.cell? ⟨g, i, none⟩ = some (.int .i64 (zs.getD i 0))) := HC.out
        have cV := cell_of_one hv
        have c0 := HC.out 0 (by omega)
        have hcap : Hid (n + 1 ≤ maxLen) := by show _ ≤ _; have := hn2.out; unfold maxLen; omega
        clear hv ho
        generalize hz0 : zs.getD 0 0 = z0 at c0
        have HZ0 := Lib.hid hz0
        clear hz0
        go_wp2
        go_region_held3 (fun w' => w'.cell? ⟨w.heap.size + 2, 0, none⟩ = some (.slice (some ⟨g, 0, none⟩) (n + 1) cap) ∧ w'.cell? ⟨g, 0, none⟩ = some (.int .i64 z0)) (refine ⟨?_, ?_⟩ <;> go_cell)
          (first | (go_at_call 42; refine (least_any _ g (n + 1) cap zs _ hlen2.out hcap.out HCd.out).mono ?_; rintro e w1 ⟨rfl, rfl⟩) | (go_at_call 43; refine (greatest_any _ g (n + 1) cap zs _ hlen2.out hcap.out HCd.out).mono ?_; rintro e w1 ⟨rfl, rfl⟩))
        all_goals go_wp2
        all_goals refine bodyPost_ret (v := .agg #[.int .i64 (minL z0 zs), .int .i64 (maxL z0 zs)]) (by simp [results, Tryd.results25, go_sem, *]) rfl ⟨by rw [EV.out, if_pos trivial, HZ0.out]; rfl, ?_⟩
        all_goals exact Below.setCell (Below.setCell HB.out.drew (by simp) _) (by simp) _

end Go.Proofs.YtdbfaekdkjclcaaDoor
