
/-
  'hull' of package num: its closure, which notes one value; the loops over both lists of operands; the least and the greatest of what was noted.
-/
import Derived.Test.YtdbfaekdkjclcaaDoorNumI
import Derived.OneCell
import Derived.Deep.RegionHeld3
namespace Go.Proofs.YtdbfaekdkjclcaaDoor
open Go Go.RowKit

/-- WHAT THE FOUR BLOCKS OF hull's OWN HOLD: the function, the result, the values noted so far, whether all of them were exact. -/
structure HullInv (B : Nat) (fv : Value) (ft : Bool) (zs : List Int) (w : World) : Prop where
  fb : w.heap[B]? = some (.cells #[fv] 41 (0, 0))
  rb : w.heap[B + 1]? = some (.cells #[.int .i64 0, .int .i64 0] 24 (0, 0))
  vb : ∃ v, w.heap[B + 2]? = some (.cells #[v] 45 (0, 0)) ∧ w.ownsRow (B + 4) 2 1 v zs.length (zs.map (Value.int .i64))
  tb : w.heap[B + 3]? = some (.cells #[.bool ft] 4 (0, 0))

theorem HullInv.size {B : Nat} {fv : Value} {ft : Bool} {zs : List Int} {w : World} (h : HullInv B fv ft zs w) : B + 4 ≤ w.heap.size := by
  have := lt_of_block h.tb; omega

theorem ownsRow_below {w w' : World} {base : Nat} {e : TypeId} {size : Nat} {v : Value} {n : Nat} {xs : List Value} (h : w.ownsRow base e size v n xs) (hb : Below w.heap.size w w') : w'.ownsRow base e size v n xs := by
  obtain ⟨h1, h2⟩ := h
  refine ⟨h1, ?_⟩
  rcases h2 with h2 | ⟨g, cap, cur, rfl, h3, h4, h5⟩
  · exact Or.inl h2
  · exact Or.inr ⟨g, cap, cur, rfl, h3, (hb.block g (lt_of_block h4)).trans h4, h5⟩

theorem HullInv.below {B : Nat} {fv : Value} {ft : Bool} {zs : List Int} {w w' : World} (h : HullInv B fv ft zs w) (hb : Below w.heap.size w w') : HullInv B fv ft zs w' := by
  have hs := h.size
  obtain ⟨v, hv, ho⟩ := h.vb
  exact ⟨(hb.block _ (by omega)).trans h.fb, (hb.block _ (by omega)).trans h.rb, ⟨v, (hb.block _ (by omega)).trans hv, ownsRow_below ho hb⟩, (hb.block _ (by omega)).trans h.tb⟩

theorem HullInv.fits {B : Nat} {fv : Value} {ft : Bool} {zs : List Int} {w : World} (h : HullInv B fv ft zs w) (x : Bool) : HullInv B fv x zs (w.setCell ⟨B + 3, 0, none⟩ (.bool x)) := by
  obtain ⟨v, hv, ho⟩ := h.vb
  have far : ∀ b, b ≠ B + 3 → (w.setCell ⟨B + 3, 0, none⟩ (.bool x)).heap[b]? = w.heap[b]? := fun b hb => Below.heap_setCell _ _ _ _ (by simpa using hb)
  refine ⟨(far _ (by omega)).trans h.fb, (far _ (by omega)).trans h.rb, ⟨v, (far _ (by omega)).trans hv, ?_⟩, one_setCell h.tb⟩
  refine ownsRow_setCell_other ho (fun e => ?_) _
  have := (ho.lt _ e).1
  simp at this

theorem row_some {w : World} {base : Nat} {e : TypeId} {size : Nat} {v : Value} {n : Nat} {xs : List Value} (h : w.ownsRow base e size v (n + 1) xs) : ∃ g cap, v = .slice (some ⟨g, 0, none⟩) (n + 1) cap := by
  obtain ⟨_, h2⟩ := h
  rcases h2 with ⟨_, h2⟩ | ⟨g, cap, _, h3, _⟩
  · omega
  · exact ⟨g, cap, h3⟩

theorem fits_row {B : Nat} {w : World} {v : Value} {n : Nat} {xs : List Value} (x : Bool) (hv : w.heap[B + 2]? = some (.cells #[v] 45 (0, 0))) (ho : w.ownsRow (B + 4) 2 1 v n xs) :
    (w.setCell ⟨B + 3, 0, none⟩ (.bool x)).heap[B + 2]? = some (.cells #[v] 45 (0, 0)) ∧ (w.setCell ⟨B + 3, 0, none⟩ (.bool x)).ownsRow (B + 4) 2 1 v n xs := by
  refine ⟨(Below.heap_setCell _ _ _ _ (by simp)).trans hv, ownsRow_setCell_other ho (fun e => ?_) _⟩
  have := (ho.lt _ e).1
  simp at this

/-- One value more: behind the append, the variable set anew. -/
theorem HullInv.push {B : Nat} {fv : Value} {ft : Bool} {zs : List Int} {W w2 : World} {v v' : Value} {z : Int} (h : HullInv B fv ft zs W) (hv : W.heap[B + 2]? = some (.cells #[v] 45 (0, 0)))
    (ho : W.ownsRow (B + 4) 2 1 v zs.length (zs.map (Value.int .i64)))
    (hg : (W.alloc (.cells #[.int .i64 z] 2)).grownBy w2 v.ownBlock) (ho' : w2.ownsRow (B + 4) 2 1 v' (zs.length + 1) (zs.map (Value.int .i64) ++ [.int .i64 z])) :
    w2.heap[B + 2]? = some (.cells #[v] 45 (0, 0)) ∧ HullInv B fv ft (zs ++ [z]) (w2.setCell ⟨B + 2, 0, none⟩ v') ∧ Below B W (w2.setCell ⟨B + 2, 0, none⟩ v') := by
  have hs := h.size
  have own4 : ∀ k, v.ownBlock = some k → B + 4 ≤ k := fun k e => (ho.lt k e).1
  have old : ∀ b, b < B + 4 → w2.heap[b]? = W.heap[b]? := fun b hb => by
    rw [hg.block b (by simp; omega) (fun e => by have := own4 b e.symm; omega)]
    exact Below.heap_alloc _ _ _ (by omega)
  have h2 : w2.heap[B + 2]? = some (.cells #[v] 45 (0, 0)) := (old _ (by omega)).trans hv
  have far : ∀ b, b ≠ B + 2 → (w2.setCell ⟨B + 2, 0, none⟩ v').heap[b]? = w2.heap[b]? := fun b hb => Below.heap_setCell _ _ _ _ (by simpa using hb)
  refine ⟨h2, ⟨(far _ (by omega)).trans ((old _ (by omega)).trans h.fb), (far _ (by omega)).trans ((old _ (by omega)).trans h.rb), ⟨v', one_setCell h2, ?_⟩, (far _ (by omega)).trans ((old _ (by omega)).trans h.tb)⟩, ?_⟩
  · have e : (zs ++ [z]).map (Value.int .i64) = zs.map (Value.int .i64) ++ [.int .i64 z] := by simp
    rw [e, List.length_append]
    refine ownsRow_setCell_other ho' (fun e => ?_) _
    have := (ho'.lt _ e).1
    simp at this
  · refine Below.setCell ?_ (by simp) _
    refine ((Below.refl B W).alloc (by omega) _).grown hg (by simp; omega) (fun k e => ?_)
    have := own4 k e
    omega

theorem info64 : (Tryd.prog.info? 2).map (fun i => (i.zero, i.size, i.bytes)) = some (some (.int .i64 0), 1, 8) := by kernel_rfl

/-- The operator's function, as it stands in a slot, can be called. -/
def Enters (k : Nat) : Prop := ∀ (args : Array Value) (w : World), (callFunc k args).run Tryd.prog w = .ok (.enter k args) w

set_option maxHeartbeats 400000 in
theorem note_true (B k : Nat) (op x y : Int) (zs : List Int) (w : World) (hent : Enters k) (hf : ∀ w, Calls Tryd.prog k #[.int .i64 x, .int .i64 y] w (OpGives w op x y)) (hn : zs.length ≤ 1000) (inv : HullInv B (.func (.func k) #[] #[]) true zs w) :
    Calls Tryd.prog 51 #[.int .i64 x, .int .i64 y, .pointer (some ⟨B, 0, none⟩), .pointer (some ⟨B + 3, 0, none⟩), .pointer (some ⟨B + 2, 0, none⟩)] w
      fun e w' => e = .returned (.tuple #[]) ∧ HullInv B (.func (.func k) #[] #[]) (opFits op x y) (zs ++ [opVal op x y]) w' ∧ Below B w w' := by
  obtain ⟨i0, hi, hz0, hz1, hz2⟩ := info_parts info64
  have hF := Lib.hid hf; clear hf
  have hI := Lib.hid inv
  have cF := cell_of_one inv.fb
  have hent' : ∀ (args : Array Value) (w : World), (callFunc k args).run Tryd.prog w = .ok (.enter k args) w := hent
  clear inv hent
  go_enter Tryd.func51, Tryd.ntmps51
  go_wp2_with fail
  refine (hF.out _).mono ?_
  rintro e w1 ⟨rfl, hb1⟩
  have hI1 := Lib.hid (hI.out.below hb1)
  have cT := cell_of_one hI1.out.tb
  have fT := free_of_one hI1.out.tb
  obtain ⟨v, hv, ho⟩ := hI1.out.vb
  have cV := cell_of_one hv
  obtain ⟨hv2, ho2⟩ := fits_row (opFits op x y) hv ho
  have hI2 := Lib.hid (hI1.out.fits (opFits op x y))
  have hs := hI1.out.size
  have HV2 := Lib.hid hv2
  have HB1 := Lib.hid hb1
  clear hv2 hv ho hb1 hF hent'
  go_wp2_with (at_builtin; refine wpList_append_own _ rfl _ _ 45 rfl (B + 4) 2 i0 (.int .i64 0) 1 8 Tryd.underlying45 hi hz0 hz1 hz2 rfl (by decide) _ _ _ rfl (ho2.alloc _) ⟨w1.heap.size, 0, none⟩ 1 1 [.int .i64 (opVal op x y)] rfl rfl ?c1 ?c2 ?c3 ?c4 ?c5 ?_)
  case c1 =>
    intro j u hj
    match j, hj with
    | 0, hj => simp at hj; subst hj; exact World.cell?_alloc_at _ _ _ _ (by simp)
  case c2 => intro u hu; simp at hu; subst hu; rfl
  case c3 => unfold maxLen; omega
  case c4 => omega
  case c5 => simp; omega
  intro v' w2 hown' hgrow' _
  obtain ⟨g', cap', rfl⟩ := row_some hown'
  obtain ⟨h2, hinv, hbel⟩ := hI2.out.push HV2.out ho2 hgrow' hown'
  have c2 := cell_of_one h2
  have f2 := free_of_one h2
  have HI := Lib.hid hinv
  have HB := Lib.hid hbel
  clear h2 hinv hbel hown' hgrow' ho2
  go_wp2
  go_end0
  refine ⟨rfl, HI.out, ?_⟩
  exact ((HB1.out.mono (by have := hI.out.size; omega)).setCell (by simp) _).trans HB.out

set_option maxHeartbeats 400000 in
theorem note_false (B k : Nat) (op x y : Int) (zs : List Int) (w : World) (hent : Enters k) (hf : ∀ w, Calls Tryd.prog k #[.int .i64 x, .int .i64 y] w (OpGives w op x y)) (hn : zs.length ≤ 1000) (inv : HullInv B (.func (.func k) #[] #[]) false zs w) :
    Calls Tryd.prog 51 #[.int .i64 x, .int .i64 y, .pointer (some ⟨B, 0, none⟩), .pointer (some ⟨B + 3, 0, none⟩), .pointer (some ⟨B + 2, 0, none⟩)] w
      fun e w' => e = .returned (.tuple #[]) ∧ HullInv B (.func (.func k) #[] #[]) (false) (zs ++ [opVal op x y]) w' ∧ Below B w w' := by
  obtain ⟨i0, hi, hz0, hz1, hz2⟩ := info_parts info64
  have hF := Lib.hid hf; clear hf
  have hI := Lib.hid inv
  have cF := cell_of_one inv.fb
  have hent' : ∀ (args : Array Value) (w : World), (callFunc k args).run Tryd.prog w = .ok (.enter k args) w := hent
  clear inv hent
  go_enter Tryd.func51, Tryd.ntmps51
  go_wp2_with fail
  refine (hF.out _).mono ?_
  rintro e w1 ⟨rfl, hb1⟩
  have hI1 := Lib.hid (hI.out.below hb1)
  have cT := cell_of_one hI1.out.tb
  have fT := free_of_one hI1.out.tb
  obtain ⟨v, hv, ho⟩ := hI1.out.vb
  have cV := cell_of_one hv
  obtain ⟨hv2, ho2⟩ := fits_row (false) hv ho
  have hI2 := Lib.hid (hI1.out.fits (false))
  have hs := hI1.out.size
  have HV2 := Lib.hid hv2
  have HB1 := Lib.hid hb1
  clear hv2 hv ho hb1 hF hent'
  go_wp2_with (at_builtin; refine wpList_append_own _ rfl _ _ 45 rfl (B + 4) 2 i0 (.int .i64 0) 1 8 Tryd.underlying45 hi hz0 hz1 hz2 rfl (by decide) _ _ _ rfl (ho2.alloc _) ⟨w1.heap.size, 0, none⟩ 1 1 [.int .i64 (opVal op x y)] rfl rfl ?c1 ?c2 ?c3 ?c4 ?c5 ?_)
  case c1 =>
    intro j u hj
    match j, hj with
    | 0, hj => simp at hj; subst hj; exact World.cell?_alloc_at _ _ _ _ (by simp)
  case c2 => intro u hu; simp at hu; subst hu; rfl
  case c3 => unfold maxLen; omega
  case c4 => omega
  case c5 => simp; omega
  intro v' w2 hown' hgrow' _
  obtain ⟨g', cap', rfl⟩ := row_some hown'
  obtain ⟨h2, hinv, hbel⟩ := hI2.out.push HV2.out ho2 hgrow' hown'
  have c2 := cell_of_one h2
  have f2 := free_of_one h2
  have HI := Lib.hid hinv
  have HB := Lib.hid hbel
  clear h2 hinv hbel hown' hgrow' ho2
  go_wp2
  go_end0
  refine ⟨rfl, HI.out, ?_⟩
  exact ((HB1.out.mono (by have := hI.out.size; omega)).setCell (by simp) _).trans HB.out

/-- THE CLOSURE. -/
theorem note_any (B k : Nat) (op x y : Int) (ft : Bool) (zs : List Int) (w : World) (hent : Enters k) (hf : ∀ w, Calls Tryd.prog k #[.int .i64 x, .int .i64 y] w (OpGives w op x y)) (hn : zs.length ≤ 1000) (inv : HullInv B (.func (.func k) #[] #[]) ft zs w) :
    Calls Tryd.prog 51 #[.int .i64 x, .int .i64 y, .pointer (some ⟨B, 0, none⟩), .pointer (some ⟨B + 3, 0, none⟩), .pointer (some ⟨B + 2, 0, none⟩)] w
      fun e w' => e = .returned (.tuple #[]) ∧ HullInv B (.func (.func k) #[] #[]) (ft && opFits op x y) (zs ++ [opVal op x y]) w' ∧ Below B w w' := by
  cases ft
  · rw [Bool.false_and]; exact note_false B k op x y zs w hent hf hn inv
  · rw [Bool.true_and]; exact note_true B k op x y zs w hent hf hn inv

end Go.Proofs.YtdbfaekdkjclcaaDoor
