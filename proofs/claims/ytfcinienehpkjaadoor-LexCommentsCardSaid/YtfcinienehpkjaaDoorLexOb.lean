
/-
  WHAT A SLICE OF BYTES AMONG THE ARGUMENTS GIVES.
-/
import Derived.Test.YtfcinienehpkjaaDoorLexCc
import Derived.Test.YtfcinienehpkjaaDoorLexOp
namespace Go.Proofs.YtfcinienehpkjaaDoor
open Go Go.RowKit Go.ChangeShapes Go.WideShapes Go.ChangeAt Go.Joins Go.Deep

theorem cellsByte : Tryd.prog.cellsOf 5 = 1 := by kernel_rfl
set_option maxRecDepth 100000 in
theorem bytes_of_trod {H : Type} {enc : TypeId × Value → H} {w : World} {p : Option Addr} {len cap : Nat} {fuel : Nat} {x : DataW H × List MemPlace} (h : DataW.trod enc Tryd.prog w 0 (fun _ => true) true fuel 45 [.slice p len cap] = some x) : BytesIn w p len := by
  rcases open_slice Tryd.underlying45 h with ⟨h0, _⟩ | ⟨a, len', cap', m, n, D, Pl, h0, _, hl, hm, hmm, _, hi⟩
  · simp at h0
    obtain ⟨rfl, rfl, rfl⟩ := h0
    exact ⟨[], rfl, fun i z hz => by simp at hz⟩
  · simp at h0
    obtain ⟨rfl, rfl, rfl⟩ := h0
    simp only [if_true] at hmm
    have key : ∀ i, i < len → ∃ z : Int, (0 ≤ z ∧ z ≤ 255) ∧ w.cell? (a.add i) = some (.int .u8 z) := fun i hil => by
      obtain ⟨cs, hc, ht⟩ := hi i (by omega)
      rw [cellsByte] at hc
      obtain ⟨_, hcl, hat⟩ := World.cells?_some hc
      match cs, hcl with
      | [u0], _ =>
        obtain ⟨z, a0, _, w0⟩ := DataW.trod_int Tryd.underlying5 ht
        simp at a0
        subst a0
        refine ⟨z, bounds_u8 w0, ?_⟩
        have h0 := hat 0 (by omega)
        simpa [Addr.add] using h0
    obtain ⟨zs, hz1, hz2⟩ := list_of len key
    exact ⟨zs, hz1, fun i z hz => ⟨(hz2 i z hz).1, a, rfl, (hz2 i z hz).2⟩⟩
set_option maxRecDepth 100000 in
theorem open_bytes {H : Type} {enc : TypeId × Value → H} {w : World} {base : Nat} {v : Value} {d : DataW H} {ps : List MemPlace} (hv : Value.okWide Tryd.prog w .any base 45 v) (h : DataW.Trod enc Tryd.prog w 0 (fun _ => true) true 45 v d ps) :
    ∃ (p : Option Addr) (len cap : Nat), v = .slice p len cap ∧ BytesIn w p len := by
  obtain ⟨p, len, cap, rfl⟩ := okWide_slice Tryd.underlying45 hv
  obtain ⟨fuel, h⟩ := h
  exact ⟨p, len, cap, rfl, bytes_of_trod (by simpa [Value.cells] using h)⟩

end Go.Proofs.YtfcinienehpkjaaDoor
