
/-
  THE REFERENCE's corners: the hull of an operator's values for some operands.
-/
import Derived.Test.YtdbfaekdkjclcaaDoorNumQe
import Derived.Test.YtdbfaekdkjclcaaDoorNumXw
namespace Go.Proofs.YtdbfaekdkjclcaaDoor
open Go Go.RowKit

/-- exact, whatever the operator (multiplication: corner by corner, XNumQa). -/
theorem rexact_any (op x y : Int) (h1 : 1 ≤ op) (h4 : op ≤ 4) (hx : I64 x) (hy : I64 y) (hz : op = 4 → ¬ y = 0) (w : World) : Calls Tryd.prog 52 #[.int .u8 op, .int .i64 x, .int .i64 y] w (Gives w (.tuple #[.int .i64 (opVal op x y), .bool (opFits op x y)])) := by
  rcases (show op = 1 ∨ op = 2 ∨ op = 3 ∨ op = 4 by omega) with rfl | rfl | rfl | rfl
  · exact rexact_1 x y hx hy w
  · exact rexact_2 x y hx hy w
  · exact rexact_3 x y hx hy w
  · exact rexact_4 x y hx (hz rfl) w

/-- The values of the operands before a pair of places. -/
def Seen (op : Int) (xs ys : List Int) (i j : Nat) (v : Int) : Prop := ∃ a b, a < xs.length ∧ b < ys.length ∧ (a < i ∨ a = i ∧ b < j) ∧ v = opVal op (xs.getD a 0) (ys.getD b 0)
theorem seen_none (op : Int) (xs ys : List Int) (v : Int) : ¬ Seen op xs ys 0 0 v := by
  rintro ⟨a, b, h1, h2, h3, h4⟩; omega
theorem seen_next {op : Int} {xs ys : List Int} {i j : Nat} (hi : i < xs.length) (hj : j < ys.length) (v : Int) : Seen op xs ys i (j + 1) v ↔ (Seen op xs ys i j v ∨ v = opVal op (xs.getD i 0) (ys.getD j 0)) := by
  constructor
  · rintro ⟨a, b, h1, h2, h3, rfl⟩
    by_cases e : a = i ∧ b = j
    · obtain ⟨rfl, rfl⟩ := e; exact Or.inr rfl
    · exact Or.inl ⟨a, b, h1, h2, by omega, rfl⟩
  · rintro (⟨a, b, h1, h2, h3, rfl⟩ | rfl)
    · exact ⟨a, b, h1, h2, by omega, rfl⟩
    · exact ⟨i, j, hi, hj, by omega, rfl⟩
theorem seen_row {op : Int} {xs ys : List Int} {i : Nat} (v : Int) : Seen op xs ys i ys.length v ↔ Seen op xs ys (i + 1) 0 v := by
  constructor
  · rintro ⟨a, b, h1, h2, h3, rfl⟩; exact ⟨a, b, h1, h2, by omega, rfl⟩
  · rintro ⟨a, b, h1, h2, h3, rfl⟩; exact ⟨a, b, h1, h2, by omega, rfl⟩
theorem mem_getD' {xs : List Int} {z : Int} : z ∈ xs ↔ ∃ a, a < xs.length ∧ z = xs.getD a 0 := by
  constructor
  · intro h
    obtain ⟨a, ha, rfl⟩ := List.getElem_of_mem h
    exact ⟨a, ha, by rw [List.getD_eq_getElem?_getD, List.getElem?_eq_getElem ha]; rfl⟩
  · rintro ⟨a, ha, rfl⟩; exact mem_getD ha
theorem seen_all {op : Int} {xs ys : List Int} (v : Int) : Seen op xs ys xs.length 0 v ↔ v ∈ valsV op xs ys := by
  rw [mem_valsV]
  constructor
  · rintro ⟨a, b, h1, h2, _, rfl⟩
    exact ⟨_, mem_getD h1, _, mem_getD h2, rfl⟩
  · rintro ⟨x, hx, y, hy, rfl⟩
    obtain ⟨a, ha, rfl⟩ := mem_getD'.1 hx
    obtain ⟨b, hb, rfl⟩ := mem_getD'.1 hy
    exact ⟨a, b, ha, hb, by omega, rfl⟩

/-- Do all operands before a pair of places fit? -/
def FitTo (op : Int) (xs ys : List Int) (i j : Nat) : Prop := ∀ a b, a < xs.length → b < ys.length → (a < i ∨ a = i ∧ b < j) → opFits op (xs.getD a 0) (ys.getD b 0) = true
theorem fit_next {op : Int} {xs ys : List Int} {i j : Nat} (h : FitTo op xs ys i j) (hf : opFits op (xs.getD i 0) (ys.getD j 0) = true) : FitTo op xs ys i (j + 1) := fun a b h1 h2 h3 => by
  by_cases e : a = i ∧ b = j
  · obtain ⟨rfl, rfl⟩ := e; exact hf
  · exact h a b h1 h2 (by omega)
theorem fit_row {op : Int} {xs ys : List Int} {i : Nat} (h : FitTo op xs ys i ys.length) : FitTo op xs ys (i + 1) 0 := fun a b h1 h2 _ => h a b h1 h2 (by omega)
theorem fit_all {op : Int} {xs ys : List Int} (h : FitTo op xs ys xs.length 0) : fitsV op xs ys = true := fitsV_iff.2 fun x hx y hy => by
  obtain ⟨a, ha, rfl⟩ := mem_getD'.1 hx
  obtain ⟨b, hb, rfl⟩ := mem_getD'.1 hy
  exact h a b ha hb (by omega)

/-- WHAT HOLDS between two rounds. -/
structure CInv (w : World) (H : Nat) (op : Int) (bx bY : Nat) (xs ys : List Int) (W : World) (i j : Nat) (lo hi : Int) : Prop where
  vx : Ints W bx xs.length xs
  vy : Ints W bY ys.length ys
  vR : Var2 w W w.heap.size 0 0
  vH : Var2 w W H lo hi
  dH : ¬ H = w.heap.size
  bel : Below w.heap.size w W
  hull : Hull (Seen op xs ys i j) lo hi
  fit : FitTo op xs ys i j

theorem CInv.below' {w : World} {H : Nat} {op : Int} {bx bY : Nat} {xs ys : List Int} {W w1 : World} {i j : Nat} {lo hi : Int} (h : CInv w H op bx bY xs ys W i j lo hi) (hb : Below W.heap.size W w1) (hx : bx < W.heap.size := by assumption) (hy : bY < W.heap.size := by assumption) : CInv w H op bx bY xs ys w1 i j lo hi :=
  ⟨h.vx.below hb hx, h.vy.below hb hy, h.vR.below hb, h.vH.below hb, h.dH, after h.bel hb, h.hull, h.fit⟩

theorem rfull_lit' (w : World) : Calls Tryd.prog 37 #[] w (Gives w (.agg #[.int .i64 (-9223372036854775808), .int .i64 9223372036854775807])) := rfull_any w
theorem rnone_lit' (w : World) : Calls Tryd.prog 28 #[] w (Gives w (.agg #[.int .i64 1, .int .i64 0])) := rnone_any w

set_option maxRecDepth 100000 in
set_option maxHeartbeats 8000000 in
theorem rcorners_any (op : Int) (h1 : 1 ≤ op) (h4 : op ≤ 4) (bx cx bY cy : Nat) (xs ys : List Int) (w : World) (hx : Ints w bx xs.length xs) (hy : Ints w bY ys.length ys) (ix : ∀ x ∈ xs, I64 x) (iy : ∀ y ∈ ys, I64 y ∧ (op = 4 → ¬ y = 0))
    (l1 : 1 ≤ xs.length) (l2 : 1 ≤ ys.length) (m1 : xs.length ≤ 10) (m2 : ys.length ≤ 10) :
    Calls Tryd.prog 29 #[.int .u8 op, .slice (some ⟨bx, 0, none⟩) xs.length cx, .slice (some ⟨bY, 0, none⟩) ys.length cy] w (Gives w (hullV op xs ys)) := by
  have bxl := hx.lt l1
  have byl := hy.lt l2
  have HX := Lib.hid hx
  have HY := Lib.hid hy
  have IX := Lib.hid ix
  have IY := Lib.hid iy
  obtain ⟨u, v, huv⟩ := hull_iv op xs ys
  have HU := Lib.hid huv
  rw [huv]
  clear hx hy ix iy huv
  obtain ⟨nx, hnx⟩ : ∃ nx, xs.length = nx := ⟨_, rfl⟩
  obtain ⟨ny, hny⟩ : ∃ ny, ys.length = ny := ⟨_, rfl⟩
  rw [hnx, hny]
  rw [hnx] at l1 m1
  rw [hny] at l2 m2
  have NX := Lib.hid hnx
  have NY := Lib.hid hny
  clear hnx hny
  go_enter Tryd.func29, Tryd.ntmps29
  go_wp2_with fail
  refine (rnone_lit' _).mono ?_
  rintro e w1 ⟨rfl, hb1⟩
  have VR : Hid (Var2 w w1 w.heap.size 0 0) := (Var2.made (Nat.le_refl _) _ _).below hb1
  have BW : Hid (Below w.heap.size w w1) := after (by (repeat' (first | (with_reducible exact Below.refl _ _) | (with_reducible assumption) | (with_reducible refine boxed ?_ _) | (with_reducible refine Below.drew ?_) | (with_reducible refine after ?_ (by assumption))))) hb1
  have hs := hb1.size
  simp at hs
  have XI : Hid (CInv w w1.heap.size op bx bY xs ys (w1.alloc (.cells #[.int .i64 1, .int .i64 0] 24)) 0 0 1 0) :=
    ⟨(HX.out.below BW.out bxl).below ((Below.refl _ _).alloc (Nat.le_refl _) _) (by omega), (HY.out.below BW.out byl).below ((Below.refl _ _).alloc (Nat.le_refl _) _) (by omega), VR.out.alloc _, Var2.made BW.out.size _ _, by omega, boxed BW.out _, Or.inl ⟨fun v => seen_none _ _ _ v, rfl, rfl⟩, fun a b _ _ h3 => by omega⟩
  clear hb1 VR BW
  go_wp2_with fail
  generalize w1.heap.size = H at *
  go_loopw [8] (fun x wr => ∃ (i : Nat) (lo hi : Int), x = .int .i64 i ∧ i ≤ nx ∧ CInv w H op bx bY xs ys wr i 0 lo hi) (fun x _ => nx - (intOf x).toNat)
  case atStart => exact ⟨0, 1, 0, rfl, by omega, XI.out⟩
  case round =>
    clear XI
    obtain ⟨i, lo, hi, rfl, hin, hI⟩ := hrel
    have HI := Lib.hid hI
    have hbig := hI.bel.size
    clear hI
    by_cases hlt : i < nx
    · go_wp2_with fail
      obtain ⟨wo, rfl⟩ : ∃ wo : World, wo = wr := ⟨_, rfl⟩
      clear hbig
      go_loopw [9, 10, 11] (fun y _ _ wr => ∃ (j : Nat) (lo hi : Int), y = .int .i64 j ∧ j ≤ ny ∧ CInv w H op bx bY xs ys wr i j lo hi) (fun y _ _ _ => ny - (intOf y).toNat)
      case atStart => exact ⟨0, lo, hi, rfl, by omega, HI.out⟩
      case round =>
        clear HI
        obtain ⟨j, lo, hi, rfl, hjn, hI⟩ := hrel
        have hC := Lib.hid hI
        have hbx : bx < wr.heap.size := by have := hI.bel.size; omega
        have hby : bY < wr.heap.size := by have := hI.bel.size; omega
        by_cases hjt : j < ny
        · have hix : i < xs.length := by rw [NX.out]; exact hlt
          have hjy : j < ys.length := by rw [NY.out]; exact hjt
          have cx0 := hI.vx.2 i hix
          have cy0 := hI.vy.2 j hjy
          have ix0 := IX.out _ (mem_getD hix)
          obtain ⟨iy0, hz0⟩ := IY.out _ (mem_getD hjy)
          have HSN : Hid (∀ v, Seen op xs ys i (j + 1) v ↔ (Seen op xs ys i j v ∨ v = opVal op (xs.getD i 0) (ys.getD j 0))) := fun v => seen_next hix hjy v
          have HFN : Hid (opFits op (xs.getD i 0) (ys.getD j 0) = true → FitTo op xs ys i (j + 1)) := fun h => fit_next hI.fit h
          have HNO : Hid (opFits op (xs.getD i 0) (ys.getD j 0) = false → fitsV op xs ys = false) := fun h => by
            cases hf : fitsV op xs ys with
            | false => rfl
            | true => rw [fits_mem hf (mem_getD hix) (mem_getD hjy)] at h; cases h
          clear hI hix hjy
          generalize xs.getD i 0 = x at cx0 ix0 HSN HFN HNO
          generalize ys.getD j 0 = y at cy0 iy0 hz0 HSN HFN HNO
          cases hf : opFits op x y
          · have HF := Lib.hid hf
            have hfull : u = -9223372036854775808 ∧ v = 9223372036854775807 := by
              have h := HU.out
              unfold hullV at h
              rw [if_neg (by rw [HNO.out hf]; simp)] at h
              have : (-9223372036854775808 : Int) = u ∧ (9223372036854775807 : Int) = v := by simpa [iv] using h
              omega
            obtain ⟨rfl, rfl⟩ := hfull
            clear hf
            go_wp2_with fail
            refine wp_region_held_drew (S := fun w' => w'.cell? ⟨bx, i, none⟩ = some (.int .i64 x) ∧ w'.cell? ⟨bY, j, none⟩ = some (.int .i64 y)) (by kernel_rfl) ⟨cx0, cy0⟩ (fun hHeld => ?_)
            refine wpAnyH_take (i := 0) (v := ?_) (by simp only [List.getElem?_toArray, List.getElem?_cons_zero]; rfl) (by kernel_rfl) (by kernel_rfl) (by kernel_rfl) (by exact fun _ _ _ h => h) (Or.inl ⟨by rfl, ?_⟩) (by assumption) ?_
            rotate_left
            · (intro w' hSw; (try dsimp only at hSw); go_simp; try with_reducible rfl)
            try simp only [Act.put, List.setIfInBounds_toArray, List.set_cons_zero, List.set_cons_succ]
            refine wpAnyH_take (i := 1) (v := ?_) (by simp only [List.getElem?_toArray, List.getElem?_cons_zero, List.getElem?_cons_succ]; rfl) (by kernel_rfl) (by kernel_rfl) (by kernel_rfl) (by exact fun _ _ _ h => h) (Or.inl ⟨by rfl, ?_⟩) (by assumption) ?_
            rotate_left
            · (intro w' hSw; (try dsimp only at hSw); go_simp; try with_reducible rfl)
            try simp only [Act.put, List.setIfInBounds_toArray, List.set_cons_zero, List.set_cons_succ]
            refine wpAnyH_take (i := 2) (v := ?_) (by simp only [List.getElem?_toArray, List.getElem?_cons_zero, List.getElem?_cons_succ]; rfl) (by kernel_rfl) (by kernel_rfl) (by kernel_rfl) (by exact fun _ _ _ h => h) (Or.inl ⟨by rfl, ?_⟩) (by assumption) ?_
            rotate_left
            · (intro w' hSw; (try dsimp only at hSw); go_simp; try with_reducible rfl)
            try simp only [Act.put, List.setIfInBounds_toArray, List.set_cons_zero, List.set_cons_succ]
            refine wpAnyH_take (i := 3) (v := ?_) (by simp only [List.getElem?_toArray, List.getElem?_cons_zero, List.getElem?_cons_succ]; rfl) (by kernel_rfl) (by kernel_rfl) (by kernel_rfl) (by exact fun _ _ _ h => h) (Or.inl ⟨by rfl, ?_⟩) (by assumption) ?_
            rotate_left
            · (intro w' hSw; (try dsimp only at hSw); go_simp; try with_reducible rfl)
            try simp only [Act.put, List.setIfInBounds_toArray, List.set_cons_zero, List.set_cons_succ]
            refine wpAnyH_take (i := 4) (v := ?_) (by simp only [List.getElem?_toArray, List.getElem?_cons_zero, List.getElem?_cons_succ]; rfl) (by kernel_rfl) (by kernel_rfl) (by kernel_rfl) (by exact fun _ _ _ h => h) (Or.inl ⟨by rfl, ?_⟩) (by assumption) ?_
            rotate_left
            · (intro w' hSw; (try dsimp only at hSw); go_simp; try with_reducible rfl)
            try simp only [Act.put, List.setIfInBounds_toArray, List.set_cons_zero, List.set_cons_succ]
            refine wpAnyH_take (i := 5) (v := ?_) (by simp only [List.getElem?_toArray, List.getElem?_cons_zero, List.getElem?_cons_succ]; rfl) (by kernel_rfl) (by kernel_rfl) (by kernel_rfl) (by exact fun _ _ _ h => h) (Or.inl ⟨by rfl, ?_⟩) (by assumption) ?_
            rotate_left
            · (intro w' hSw; (try dsimp only at hSw); go_simp; try with_reducible rfl)
            try simp only [Act.put, List.setIfInBounds_toArray, List.set_cons_zero, List.set_cons_succ]
            refine wpAnyH_take (i := 6) (v := ?_) (by simp only [List.getElem?_toArray, List.getElem?_cons_zero, List.getElem?_cons_succ]; rfl) (by kernel_rfl) (by kernel_rfl) (by kernel_rfl) (by exact fun _ _ _ h => h) (Or.inl ⟨by rfl, ?_⟩) (by assumption) ?_
            rotate_left
            · (intro w' hSw; (try dsimp only at hSw); go_simp; try with_reducible rfl)
            try simp only [Act.put, List.setIfInBounds_toArray, List.set_cons_zero, List.set_cons_succ]
            refine wpAnyH_take (i := 7) (v := ?_) (by simp only [List.getElem?_toArray, List.getElem?_cons_zero, List.getElem?_cons_succ]; rfl) (by kernel_rfl) (by kernel_rfl) (by kernel_rfl) (by exact fun _ _ _ h => h) (Or.inl ⟨by rfl, ?_⟩) (by assumption) ?_
            rotate_left
            · (intro w' hSw; (try dsimp only at hSw); go_simp; try with_reducible rfl)
            try simp only [Act.put, List.setIfInBounds_toArray, List.set_cons_zero, List.set_cons_succ]
            refine wpAnyH_take (i := 8) (v := ?_) (by simp only [List.getElem?_toArray, List.getElem?_cons_zero, List.getElem?_cons_succ]; rfl) (by kernel_rfl) (by kernel_rfl) (by kernel_rfl) (by exact fun _ _ _ h => h) (Or.inl ⟨by rfl, ?_⟩) (by assumption) ?_
            rotate_left
            · (intro w' hSw; (try dsimp only at hSw); go_simp; try with_reducible rfl)
            try simp only [Act.put, List.setIfInBounds_toArray, List.set_cons_zero, List.set_cons_succ]
            refine wpAnyH_ready (rs := [9]) (by kernel_rfl) (by simp) ?_
            refine AllReadyH.cons (by simp only [List.getElem?_toArray, List.getElem?_cons_zero, List.getElem?_cons_succ]; rfl) (fun K hK => ?_) (AllReadyH.nil)
            go_simp
            refine (rexact_any _ _ _ h1 h4 ix0 iy0 hz0 _).mono ?_; rw [HF.out]; rintro e w5 ⟨rfl, hb5⟩
            have I5 := Lib.hid (hC.out.below' (Below.drew (Below.refl _ _)))
            have I6 := Lib.hid (I5.out.below' hb5)
            clear I5
            have hb := hb5
            clear hb5
            go_wp2_with fail
            refine hK.out _ _ ⟨keepC hb hHeld.1, keepC hb hHeld.2⟩ (fun hNext => ?_)
            clear hHeld hK K
            have hHeld := hNext
            clear hNext
            try simp only [Act.put, List.setIfInBounds_toArray, List.set_cons_zero, List.set_cons_succ]
            refine wpAnyH_take (i := 10) (v := ?_) (by simp only [List.getElem?_toArray, List.getElem?_cons_zero, List.getElem?_cons_succ]; rfl) (by kernel_rfl) (by kernel_rfl) (by kernel_rfl) (by exact fun _ _ _ h => h) (Or.inl ⟨by rfl, ?_⟩) (by assumption) ?_
            rotate_left
            · (intro w' hSw; (try dsimp only at hSw); go_simp; try with_reducible rfl)
            try simp only [Act.put, List.setIfInBounds_toArray, List.set_cons_zero, List.set_cons_succ]
            refine wpAnyH_take (i := 11) (v := ?_) (by simp only [List.getElem?_toArray, List.getElem?_cons_zero, List.getElem?_cons_succ]; rfl) (by kernel_rfl) (by kernel_rfl) (by kernel_rfl) (by exact fun _ _ _ h => h) (Or.inl ⟨by rfl, ?_⟩) (by assumption) ?_
            rotate_left
            · (intro w' hSw; (try dsimp only at hSw); go_simp; try with_reducible rfl)
            try simp only [Act.put, List.setIfInBounds_toArray, List.set_cons_zero, List.set_cons_succ]
            refine wpAnyH_take (i := 12) (v := ?_) (by simp only [List.getElem?_toArray, List.getElem?_cons_zero, List.getElem?_cons_succ]; rfl) (by kernel_rfl) (by kernel_rfl) (by kernel_rfl) (by exact fun _ _ _ h => h) (Or.inl ⟨by rfl, ?_⟩) (by assumption) ?_
            rotate_left
            · (intro w' hSw; (try dsimp only at hSw); go_simp; try with_reducible rfl)
            try simp only [Act.put, List.setIfInBounds_toArray, List.set_cons_zero, List.set_cons_succ]
            refine wpAnyH_take (i := 13) (v := ?_) (by simp only [List.getElem?_toArray, List.getElem?_cons_zero, List.getElem?_cons_succ]; rfl) (by kernel_rfl) (by kernel_rfl) (by kernel_rfl) (by exact fun _ _ _ h => h) (Or.inl ⟨by rfl, ?_⟩) (by assumption) ?_
            rotate_left
            · (intro w' hSw; (try dsimp only at hSw); go_simp; try with_reducible rfl)
            try simp only [Act.put, List.setIfInBounds_toArray, List.set_cons_zero, List.set_cons_succ]
            refine wpAnyH_take (i := 14) (v := ?_) (by simp only [List.getElem?_toArray, List.getElem?_cons_zero, List.getElem?_cons_succ]; rfl) (by kernel_rfl) (by kernel_rfl) (by kernel_rfl) (by exact fun _ _ _ h => h) (Or.inl ⟨by rfl, ?_⟩) (by assumption) ?_
            rotate_left
            · (intro w' hSw; (try dsimp only at hSw); go_simp; try with_reducible rfl)
            try simp only [Act.put, List.setIfInBounds_toArray, List.set_cons_zero, List.set_cons_succ]
            refine wpAnyH_done (by kernel_rfl) ?_ _
            clear hHeld hb
            have k0 := I6.out.vR.c0
            have k1 := I6.out.vR.c1
            go_wp2_with fail
            refine (rfull_lit' _).mono ?_
            rintro e w7 ⟨rfl, hb7⟩
            have V7 := Lib.hid (I6.out.vR.below hb7)
            have B7 : Hid (Below w.heap.size w w7) := after I6.out.bel hb7
            clear k0 k1 hb7
            have k0 := V7.out.c0
            have k1 := V7.out.c1
            have k2 := V7.out.f0
            have k3 := V7.out.f1
            go_wp2_with fail
            refine bodyPost_ret (v := .agg #[.int .i64 (-9223372036854775808), .int .i64 9223372036854775807]) (by simp [results, Tryd.results29, go_sem, *]) rfl ⟨rfl, ?_⟩
            exact Below.setCell (Below.setCell B7.out (Nat.le_refl _) _) (Nat.le_refl _) _
          · have HF := Lib.hid hf
            obtain ⟨lo2, hi2, hj, hh⟩ := hC.out.hull.join (opVal op x y)
            have HJ := Lib.hid hj
            have HH : Hid (Hull (Seen op xs ys i (j + 1)) lo2 hi2) := hh.congr fun v => (HSN.out v).symm
            have HFT : Hid (FitTo op xs ys i (j + 1)) := HFN.out hf
            clear hf hj hh
            go_wp2_with fail
            refine wp_region_held_drew (S := fun w' => w'.cell? ⟨bx, i, none⟩ = some (.int .i64 x) ∧ w'.cell? ⟨bY, j, none⟩ = some (.int .i64 y)) (by kernel_rfl) ⟨cx0, cy0⟩ (fun hHeld => ?_)
            refine wpAnyH_take (i := 0) (v := ?_) (by simp only [List.getElem?_toArray, List.getElem?_cons_zero]; rfl) (by kernel_rfl) (by kernel_rfl) (by kernel_rfl) (by exact fun _ _ _ h => h) (Or.inl ⟨by rfl, ?_⟩) (by assumption) ?_
            rotate_left
            · (intro w' hSw; (try dsimp only at hSw); go_simp; try with_reducible rfl)
            try simp only [Act.put, List.setIfInBounds_toArray, List.set_cons_zero, List.set_cons_succ]
            refine wpAnyH_take (i := 1) (v := ?_) (by simp only [List.getElem?_toArray, List.getElem?_cons_zero, List.getElem?_cons_succ]; rfl) (by kernel_rfl) (by kernel_rfl) (by kernel_rfl) (by exact fun _ _ _ h => h) (Or.inl ⟨by rfl, ?_⟩) (by assumption) ?_
            rotate_left
            · (intro w' hSw; (try dsimp only at hSw); go_simp; try with_reducible rfl)
            try simp only [Act.put, List.setIfInBounds_toArray, List.set_cons_zero, List.set_cons_succ]
            refine wpAnyH_take (i := 2) (v := ?_) (by simp only [List.getElem?_toArray, List.getElem?_cons_zero, List.getElem?_cons_succ]; rfl) (by kernel_rfl) (by kernel_rfl) (by kernel_rfl) (by exact fun _ _ _ h => h) (Or.inl ⟨by rfl, ?_⟩) (by assumption) ?_
            rotate_left
            · (intro w' hSw; (try dsimp only at hSw); go_simp; try with_reducible rfl)
            try simp only [Act.put, List.setIfInBounds_toArray, List.set_cons_zero, List.set_cons_succ]
            refine wpAnyH_take (i := 3) (v := ?_) (by simp only [List.getElem?_toArray, List.getElem?_cons_zero, List.getElem?_cons_succ]; rfl) (by kernel_rfl) (by kernel_rfl) (by kernel_rfl) (by exact fun _ _ _ h => h) (Or.inl ⟨by rfl, ?_⟩) (by assumption) ?_
            rotate_left
            · (intro w' hSw; (try dsimp only at hSw); go_simp; try with_reducible rfl)
            try simp only [Act.put, List.setIfInBounds_toArray, List.set_cons_zero, List.set_cons_succ]
            refine wpAnyH_take (i := 4) (v := ?_) (by simp only [List.getElem?_toArray, List.getElem?_cons_zero, List.getElem?_cons_succ]; rfl) (by kernel_rfl) (by kernel_rfl) (by kernel_rfl) (by exact fun _ _ _ h => h) (Or.inl ⟨by rfl, ?_⟩) (by assumption) ?_
            rotate_left
            · (intro w' hSw; (try dsimp only at hSw); go_simp; try with_reducible rfl)
            try simp only [Act.put, List.setIfInBounds_toArray, List.set_cons_zero, List.set_cons_succ]
            refine wpAnyH_take (i := 5) (v := ?_) (by simp only [List.getElem?_toArray, List.getElem?_cons_zero, List.getElem?_cons_succ]; rfl) (by kernel_rfl) (by kernel_rfl) (by kernel_rfl) (by exact fun _ _ _ h => h) (Or.inl ⟨by rfl, ?_⟩) (by assumption) ?_
            rotate_left
            · (intro w' hSw; (try dsimp only at hSw); go_simp; try with_reducible rfl)
            try simp only [Act.put, List.setIfInBounds_toArray, List.set_cons_zero, List.set_cons_succ]
            refine wpAnyH_take (i := 6) (v := ?_) (by simp only [List.getElem?_toArray, List.getElem?_cons_zero, List.getElem?_cons_succ]; rfl) (by kernel_rfl) (by kernel_rfl) (by kernel_rfl) (by exact fun _ _ _ h => h) (Or.inl ⟨by rfl, ?_⟩) (by assumption) ?_
            rotate_left
            · (intro w' hSw; (try dsimp only at hSw); go_simp; try with_reducible rfl)
            try simp only [Act.put, List.setIfInBounds_toArray, List.set_cons_zero, List.set_cons_succ]
            refine wpAnyH_take (i := 7) (v := ?_) (by simp only [List.getElem?_toArray, List.getElem?_cons_zero, List.getElem?_cons_succ]; rfl) (by kernel_rfl) (by kernel_rfl) (by kernel_rfl) (by exact fun _ _ _ h => h) (Or.inl ⟨by rfl, ?_⟩) (by assumption) ?_
            rotate_left
            · (intro w' hSw; (try dsimp only at hSw); go_simp; try with_reducible rfl)
            try simp only [Act.put, List.setIfInBounds_toArray, List.set_cons_zero, List.set_cons_succ]
            refine wpAnyH_take (i := 8) (v := ?_) (by simp only [List.getElem?_toArray, List.getElem?_cons_zero, List.getElem?_cons_succ]; rfl) (by kernel_rfl) (by kernel_rfl) (by kernel_rfl) (by exact fun _ _ _ h => h) (Or.inl ⟨by rfl, ?_⟩) (by assumption) ?_
            rotate_left
            · (intro w' hSw; (try dsimp only at hSw); go_simp; try with_reducible rfl)
            try simp only [Act.put, List.setIfInBounds_toArray, List.set_cons_zero, List.set_cons_succ]
            refine wpAnyH_ready (rs := [9]) (by kernel_rfl) (by simp) ?_
            refine AllReadyH.cons (by simp only [List.getElem?_toArray, List.getElem?_cons_zero, List.getElem?_cons_succ]; rfl) (fun K hK => ?_) (AllReadyH.nil)
            go_simp
            refine (rexact_any _ _ _ h1 h4 ix0 iy0 hz0 _).mono ?_; rw [HF.out]; rintro e w5 ⟨rfl, hb5⟩
            have I5 := Lib.hid (hC.out.below' (Below.drew (Below.refl _ _)))
            have I6 := Lib.hid (I5.out.below' hb5)
            clear I5
            have hb := hb5
            clear hb5
            go_wp2_with fail
            refine hK.out _ _ ⟨keepC hb hHeld.1, keepC hb hHeld.2⟩ (fun hNext => ?_)
            clear hHeld hK K
            have hHeld := hNext
            clear hNext
            try simp only [Act.put, List.setIfInBounds_toArray, List.set_cons_zero, List.set_cons_succ]
            refine wpAnyH_take (i := 10) (v := ?_) (by simp only [List.getElem?_toArray, List.getElem?_cons_zero, List.getElem?_cons_succ]; rfl) (by kernel_rfl) (by kernel_rfl) (by kernel_rfl) (by exact fun _ _ _ h => h) (Or.inl ⟨by rfl, ?_⟩) (by assumption) ?_
            rotate_left
            · (intro w' hSw; (try dsimp only at hSw); go_simp; try with_reducible rfl)
            try simp only [Act.put, List.setIfInBounds_toArray, List.set_cons_zero, List.set_cons_succ]
            refine wpAnyH_take (i := 11) (v := ?_) (by simp only [List.getElem?_toArray, List.getElem?_cons_zero, List.getElem?_cons_succ]; rfl) (by kernel_rfl) (by kernel_rfl) (by kernel_rfl) (by exact fun _ _ _ h => h) (Or.inl ⟨by rfl, ?_⟩) (by assumption) ?_
            rotate_left
            · (intro w' hSw; (try dsimp only at hSw); go_simp; try with_reducible rfl)
            try simp only [Act.put, List.setIfInBounds_toArray, List.set_cons_zero, List.set_cons_succ]
            refine wpAnyH_take (i := 12) (v := ?_) (by simp only [List.getElem?_toArray, List.getElem?_cons_zero, List.getElem?_cons_succ]; rfl) (by kernel_rfl) (by kernel_rfl) (by kernel_rfl) (by exact fun _ _ _ h => h) (Or.inl ⟨by rfl, ?_⟩) (by assumption) ?_
            rotate_left
            · (intro w' hSw; (try dsimp only at hSw); go_simp; try with_reducible rfl)
            try simp only [Act.put, List.setIfInBounds_toArray, List.set_cons_zero, List.set_cons_succ]
            refine wpAnyH_take (i := 13) (v := ?_) (by simp only [List.getElem?_toArray, List.getElem?_cons_zero, List.getElem?_cons_succ]; rfl) (by kernel_rfl) (by kernel_rfl) (by kernel_rfl) (by exact fun _ _ _ h => h) (Or.inl ⟨by rfl, ?_⟩) (by assumption) ?_
            rotate_left
            · (intro w' hSw; (try dsimp only at hSw); go_simp; try with_reducible rfl)
            try simp only [Act.put, List.setIfInBounds_toArray, List.set_cons_zero, List.set_cons_succ]
            refine wpAnyH_take (i := 14) (v := ?_) (by simp only [List.getElem?_toArray, List.getElem?_cons_zero, List.getElem?_cons_succ]; rfl) (by kernel_rfl) (by kernel_rfl) (by kernel_rfl) (by exact fun _ _ _ h => h) (Or.inl ⟨by rfl, ?_⟩) (by assumption) ?_
            rotate_left
            · (intro w' hSw; (try dsimp only at hSw); go_simp; try with_reducible rfl)
            try simp only [Act.put, List.setIfInBounds_toArray, List.set_cons_zero, List.set_cons_succ]
            refine wpAnyH_done (by kernel_rfl) ?_ _
            clear hHeld hb
            have k0 := I6.out.vH.c0
            have k1 := I6.out.vH.c1
            go_wp2_with fail
            refine (rjoin_any _ _ _ _ _).mono ?_
            rw [HJ.out]
            rintro e w7 ⟨rfl, hb7⟩
            have I7 := Lib.hid (I6.out.below' hb7 (by have := I6.out.bel.size; omega) (by have := I6.out.bel.size; omega))
            clear k0 k1 hb7
            have k0 := I7.out.vH.c0
            have k1 := I7.out.vH.c1
            have k2 := I7.out.vH.f0
            have k3 := I7.out.vH.f1
            go_wp2_with fail
            go_roundw
            case rel =>
              have hfar := I7.out.vH.far
              have hd := I7.out.dH
              exact ⟨j + 1, lo2, hi2, by go_num, by omega, ⟨⟨I7.out.vx.1, fun q hq => keepS _ _ (I7.out.vx.2 q hq) (by dsimp only; omega)⟩, ⟨I7.out.vy.1, fun q hq => keepS _ _ (I7.out.vy.2 q hq) (by dsimp only; omega)⟩, I7.out.vR.far_store hd _ _, I7.out.vH.store _ _, hd, Below.setCell (Below.setCell I7.out.bel (by dsimp only; omega) _) (by dsimp only; omega) _, HH.out, HFT.out⟩⟩
            case measure => simp [intOf]; omega
        · obtain rfl : j = ny := by omega
          clear hI
          go_wp2_with fail
          go_roundw
          case rel =>
            have h := hC.out
            exact ⟨i + 1, lo, hi, by go_num, by omega, ⟨h.vx, h.vy, h.vR, h.vH, h.dH, h.bel, h.hull.congr fun v => by rw [← seen_row, NY.out], fit_row (by rw [NY.out]; exact h.fit)⟩⟩
          case measure => simp [intOf]; omega
    · obtain rfl : i = nx := by omega
      have h := HI.out
      have e : u = lo ∧ v = hi := by
        have hs : Hull (fun z => z ∈ valsV op xs ys) lo hi := h.hull.congr fun v => by rw [← seen_all, NX.out]
        have hf := fit_all (op := op) (xs := xs) (ys := ys) (by rw [NX.out]; exact h.fit)
        rcases hullV_is (op := op) (xs := xs) (ys := ys) (by rw [NX.out]; exact l1) (by rw [NY.out]; exact l2) with ⟨_, lo', hi', e, hh⟩ | ⟨hn, _⟩
        · obtain ⟨rfl, rfl⟩ := hs.uniq hh
          rw [HU.out] at e
          simpa [iv] using e
        · rw [hf] at hn; cases hn
      obtain ⟨rfl, rfl⟩ := e
      have k0 := h.vH.c0
      have k1 := h.vH.c1
      have k2 := h.vR.c0
      have k3 := h.vR.c1
      have k4 := h.vR.f0
      have k5 := h.vR.f1
      clear h
      go_wp2_with fail
      refine bodyPost_ret (v := .agg #[.int .i64 u, .int .i64 v]) (by simp [results, Tryd.results29, go_sem, *]) rfl ⟨rfl, ?_⟩
      exact Below.setCell (Below.setCell HI.out.bel (Nat.le_refl _) _) (Nat.le_refl _) _

end Go.Proofs.YtdbfaekdkjclcaaDoor
