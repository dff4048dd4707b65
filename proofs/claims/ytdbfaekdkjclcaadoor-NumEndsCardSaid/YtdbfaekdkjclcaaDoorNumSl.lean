
/-
  A SLICE OF INTERVALS THAT CAME IN: what its reading gives the walk.
-/
import Derived.Test.YtdbfaekdkjclcaaDoorNumLe
import Derived.Test.YtdbfaekdkjclcaaDoorNumL
import Derived.Deep.Slices
import Derived.WideShapes
namespace Go.Proofs.YtdbfaekdkjclcaaDoor
open Go Go.RowKit Go.ChangeShapes Go.WideShapes Go.ChangeAt Go.Joins Go.Deep

theorem open_ivals {H : Type} {enc : TypeId × Value → H} {w : World} {base : Nat} {v : Value} {d : DataW H} {ps : List MemPlace} (hv : Value.okWide Tryd.prog w .any base 33 v) (h : DataW.Trod enc Tryd.prog w 0 (fun _ => true) true 33 v d ps) :
    ∃ (p : Option Addr) (len cap : Nat), v = .slice p len cap ∧ IvalsIn w p len := by
  obtain ⟨p, len, cap, rfl⟩ := okWide_slice Tryd.underlying33 hv
  obtain ⟨fuel, h⟩ := h
  rcases open_slice Tryd.underlying33 h with ⟨h0, _⟩ | ⟨a, len', cap', m, n, D, Pl, h0, _, hl, hm, hmm, _, hi⟩
  · simp [Value.cells] at h0
    obtain ⟨rfl, rfl, rfl⟩ := h0
    exact ⟨none, 0, 0, rfl, Nat.zero_le _, fun i hi => by omega⟩
  · simp [Value.cells] at h0
    obtain ⟨rfl, rfl, rfl⟩ := h0
    refine ⟨_, _, _, rfl, Nat.le_trans hl hm, fun i hil => ?_⟩
    simp only [if_true] at hmm
    obtain ⟨cs, hc, ht⟩ := hi i (by omega)
    rw [cellsIval] at hc
    obtain ⟨_, hcl, hat⟩ := World.cells?_some hc
    obtain ⟨y0, y1, n', _, _, e0, e1⟩ := trod_struct2 Tryd.underlying24 ht
    match cs, hcl with
    | [u0, u1], _ =>
      obtain ⟨x, a0, rfl, w0⟩ := DataW.trod_int Tryd.underlying2 e0
      obtain ⟨y, a1, rfl, w1⟩ := DataW.trod_int Tryd.underlying2 e1
      simp [cells64] at a0 a1
      subst a0 a1
      have h0 := hat 0 (by omega)
      have h1 := hat 1 (by omega)
      rw [add_add] at h0 h1
      exact ⟨a, x, y, rfl, by simpa using h0, by simpa using h1, bounds_i64 w0, bounds_i64 w1⟩

end Go.Proofs.YtdbfaekdkjclcaaDoor
