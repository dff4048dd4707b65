
/-
  WHAT THE ARGUMENTS OF THE LAWS GIVE THE WALKS: strings, tokens, lines.
-/
import Derived.Test.YtalbcgbfefgjfaaDoorLexLn
import Derived.Deep.Slices
import Derived.WideShapes
import Derived.ChangeMaps5
import Derived.OpenShut
import Derived.ProofKit
namespace Go.Proofs.YtalbcgbfefgjfaaDoor
open Go Go.RowKit Go.ChangeShapes Go.WideShapes Go.ChangeAt Go.Joins Go.Deep

theorem max_val : maxLen = 9223372036854775807 := by decide +kernel
theorem le_max {n : Nat} (h : n ≤ maxLen) : n ≤ 9223372036854775807 := max_val ▸ h

theorem list_of {α : Type} {Q : Nat → α → Prop} : ∀ n : Nat, (∀ i, i < n → ∃ z, Q i z) → ∃ zs : List α, zs.length = n ∧ ∀ (i : Nat) z, zs[i]? = some z → Q i z
  | 0, _ => ⟨[], rfl, fun i z h => by simp at h⟩
  | n + 1, h => by
    obtain ⟨zs, hl, hz⟩ := list_of n (fun i hi => h i (by omega))
    obtain ⟨z, hq⟩ := h n (by omega)
    refine ⟨zs ++ [z], by simp [hl], fun i y hy => ?_⟩
    by_cases hi : i < n
    · rw [List.getElem?_append_left (by omega)] at hy
      exact hz i y hy
    · rw [List.getElem?_append_right (by omega)] at hy
      have hi2 : i - zs.length = 0 := by
        have := (List.getElem?_eq_some_iff.1 hy).1
        simp at this; omega
      rw [hi2] at hy
      simp at hy
      subst hy
      obtain rfl : i = n := by omega
      exact hq

set_option maxRecDepth 100000 in
theorem open_string {H : Type} {enc : TypeId × Value → H} {w : World} {base : Nat} {v : Value} {d : DataW H} {ps : List MemPlace} (hv : Value.okWide Tryd.prog w .any base 9 v) (h : DataW.Trod enc Tryd.prog w 0 (fun _ => true) true 9 v d ps) :
    ∃ s : ByteArray, v = .string s ∧ s.size ≤ 9223372036854775807 := by
  obtain ⟨s, hs, _, _, hz⟩ := Go.ChangeMaps.open_string Tryd.underlying9 hv h
  exact ⟨s, hs, le_max hz⟩

theorem cellsTok : Tryd.prog.cellsOf 27 = 4 := by kernel_rfl
theorem cellsLine : Tryd.prog.cellsOf 35 = 2 := by kernel_rfl
theorem cellsInt : Tryd.prog.cellsOf 3 = 1 := by kernel_rfl
theorem cellsI64 : Tryd.prog.cellsOf 2 = 1 := by kernel_rfl
theorem cellsStr : Tryd.prog.cellsOf 9 = 1 := by kernel_rfl
theorem cellsKind : Tryd.prog.cellsOf 25 = 1 := by kernel_rfl
theorem cellsToks : Tryd.prog.cellsOf 24 = 1 := by kernel_rfl

theorem trod_struct4' {H : Type} {enc : TypeId × Value → H} {P : Program} {w : World} {base : Nat} {spare : Nat → Bool} {held : Bool} {t : TypeId} {f0 f1 f2 f3 : Field} {fuel : Nat} {cs : List Value} {x : DataW H × List MemPlace} (ht : P.underlying t = some (.struct #[f0, f1, f2, f3])) (h : DataW.trod enc P w base spare held fuel t cs = some x) :
    ∃ y0 y1 y2 y3 n, cs.length = P.cellsOf t ∧ DataW.trod enc P w base spare held n f0.type ((cs.drop f0.offset).take (P.cellsOf f0.type)) = some y0 ∧ DataW.trod enc P w base spare held n f1.type ((cs.drop f1.offset).take (P.cellsOf f1.type)) = some y1 ∧
      DataW.trod enc P w base spare held n f2.type ((cs.drop f2.offset).take (P.cellsOf f2.type)) = some y2 ∧ DataW.trod enc P w base spare held n f3.type ((cs.drop f3.offset).take (P.cellsOf f3.type)) = some y3 := by
  obtain ⟨xs, n, _, rfl, hl, hlen, hf⟩ := DataW.trod_struct ht h
  match xs, hlen with
  | [y0, y1, y2, y3], _ => exact ⟨y0, y1, y2, y3, n, hl, by simpa using hf 0 f0 rfl, by simpa using hf 1 f1 rfl, by simpa using hf 2 f2 rfl, by simpa using hf 3 f3 rfl⟩

/-- Tokens, with the bounds that their types set. -/
def TokensIn (w : World) (p : Option Addr) (n : Nat) : Prop := n ≤ 9223372036854775807 ∧ ∃ zs, Toks w p n zs ∧ ∀ (i : Nat) (x : TokR), zs[i]? = some x → x.t.size ≤ 9223372036854775807

set_option maxRecDepth 100000 in
theorem toks_of_trod {H : Type} {enc : TypeId × Value → H} {w : World} {p : Option Addr} {len cap : Nat} {fuel : Nat} {x : DataW H × List MemPlace} (h : DataW.trod enc Tryd.prog w 0 (fun _ => true) true fuel 24 [.slice p len cap] = some x) : TokensIn w p len := by
  rcases open_slice Tryd.underlying24 h with ⟨h0, _⟩ | ⟨a, len', cap', m, n, D, Pl, h0, _, hl, hm, hmm, _, hi⟩
  · simp at h0
    obtain ⟨rfl, rfl, rfl⟩ := h0
    exact ⟨Nat.zero_le _, [], ⟨rfl, fun i z hz => by simp at hz⟩, fun i z hz => by simp at hz⟩
  · simp at h0
    obtain ⟨rfl, rfl, rfl⟩ := h0
    refine ⟨le_max (Nat.le_trans hl hm), ?_⟩
    simp only [if_true] at hmm
    have key : ∀ i, i < len → ∃ z : TokR, TokAt w (a.add (i * 4)) z ∧ z.t.size ≤ 9223372036854775807 := fun i hil => by
      obtain ⟨cs, hc, ht⟩ := hi i (by omega)
      rw [cellsTok] at hc
      obtain ⟨_, hcl, hat⟩ := World.cells?_some hc
      obtain ⟨y0, y1, y2, y3, n', _, e0, e1, e2, e3⟩ := trod_struct4' Tryd.underlying27 ht
      match cs, hcl with
      | [u0, u1, u2, u3], _ =>
        obtain ⟨zk, a0, rfl, _⟩ := DataW.trod_int Tryd.underlying25 e0
        obtain ⟨zl, a1, rfl, _⟩ := DataW.trod_int Tryd.underlying3 e1
        obtain ⟨zt, a2, rfl, w2⟩ := DataW.trod_string Tryd.underlying9 e2
        obtain ⟨zn, a3, rfl, _⟩ := DataW.trod_int Tryd.underlying2 e3
        simp [cellsKind, cellsInt, cellsStr, cellsI64] at a0 a1 a2 a3
        subst a0 a1 a2 a3
        have h0 := hat 0 (by omega)
        have h1 := hat 1 (by omega)
        have h2 := hat 2 (by omega)
        have h3 := hat 3 (by omega)
        refine ⟨⟨zk, zl, zt, zn⟩, ⟨?_, ?_, ?_, ?_⟩, le_max w2⟩
        · simpa [Addr.add] using h0
        · simpa [Addr.add] using h1
        · simpa [Addr.add] using h2
        · simpa [Addr.add] using h3
    obtain ⟨zs, hz1, hz2⟩ := list_of len key
    exact ⟨zs, ⟨hz1, fun i z hz => ⟨a, rfl, (hz2 i z hz).1⟩⟩, fun i z hz => (hz2 i z hz).2⟩

set_option maxRecDepth 100000 in
theorem open_tokens {H : Type} {enc : TypeId × Value → H} {w : World} {base : Nat} {v : Value} {d : DataW H} {ps : List MemPlace} (hv : Value.okWide Tryd.prog w .any base 24 v) (h : DataW.Trod enc Tryd.prog w 0 (fun _ => true) true 24 v d ps) :
    ∃ (p : Option Addr) (len cap : Nat), v = .slice p len cap ∧ TokensIn w p len := by
  obtain ⟨p, len, cap, rfl⟩ := okWide_slice Tryd.underlying24 hv
  obtain ⟨fuel, h⟩ := h
  exact ⟨p, len, cap, rfl, toks_of_trod (by simpa [Value.cells] using h)⟩

/-- Lines, with the bounds that their types set. -/
def LinesOk (w : World) (p : Option Addr) (n : Nat) : Prop := n ≤ 9223372036854775807 ∧ ∃ zs : List LineR, zs.length = n ∧ ∀ (i : Nat) z, zs[i]? = some z → ∃ a, p = some a ∧ w.cell? (a.add (i * 2)) = some (.int .i64 z.d) ∧ w.cell? ⟨(a.add (i * 2)).block, (a.add (i * 2)).off + 1, none⟩ = some (.slice z.p z.n z.cp) ∧
  (-9223372036854775808 ≤ z.d ∧ z.d ≤ 9223372036854775807) ∧ z.n ≤ 9223372036854775807 ∧ Toks w z.p z.n z.xs ∧ ∀ (j : Nat) (x : TokR), z.xs[j]? = some x → x.t.size ≤ 9223372036854775807

set_option maxRecDepth 100000 in
theorem open_lines {H : Type} {enc : TypeId × Value → H} {w : World} {base : Nat} {v : Value} {d : DataW H} {ps : List MemPlace} (hv : Value.okWide Tryd.prog w .any base 33 v) (h : DataW.Trod enc Tryd.prog w 0 (fun _ => true) true 33 v d ps) :
    ∃ (p : Option Addr) (len cap : Nat), v = .slice p len cap ∧ LinesOk w p len := by
  obtain ⟨p, len, cap, rfl⟩ := okWide_slice Tryd.underlying33 hv
  obtain ⟨fuel, h⟩ := h
  rcases open_slice Tryd.underlying33 h with ⟨h0, _⟩ | ⟨a, len', cap', m, n, D, Pl, h0, _, hl, hm, hmm, _, hi⟩
  · simp [Value.cells] at h0
    obtain ⟨rfl, rfl, rfl⟩ := h0
    exact ⟨none, 0, 0, rfl, Nat.zero_le _, [], rfl, fun i z hz => by simp at hz⟩
  · simp [Value.cells] at h0
    obtain ⟨rfl, rfl, rfl⟩ := h0
    refine ⟨_, _, _, rfl, le_max (Nat.le_trans hl hm), ?_⟩
    simp only [if_true] at hmm
    have key : ∀ i, i < len → ∃ z : LineR, w.cell? (a.add (i * 2)) = some (.int .i64 z.d) ∧ w.cell? ⟨(a.add (i * 2)).block, (a.add (i * 2)).off + 1, none⟩ = some (.slice z.p z.n z.cp) ∧
        (-9223372036854775808 ≤ z.d ∧ z.d ≤ 9223372036854775807) ∧ z.n ≤ 9223372036854775807 ∧ Toks w z.p z.n z.xs ∧ ∀ (j : Nat) (x : TokR), z.xs[j]? = some x → x.t.size ≤ 9223372036854775807 := fun i hil => by
      obtain ⟨cs, hc, ht⟩ := hi i (by omega)
      rw [cellsLine] at hc
      obtain ⟨_, hcl, hat⟩ := World.cells?_some hc
      obtain ⟨y0, y1, n', _, _, e0, e1⟩ := trod_struct2 Tryd.underlying35 ht
      match cs, hcl with
      | [u0, u1], _ =>
        obtain ⟨zd, a0, rfl, w0⟩ := DataW.trod_int Tryd.underlying3 e0
        simp [cellsInt] at a0
        subst a0
        simp [cellsToks] at e1
        have hsl : ∃ p len cap, u1 = .slice p len cap := by
          rcases open_slice Tryd.underlying24 e1 with ⟨h0, _⟩ | ⟨a, len', cap', m, n, D, Pl, h0, _⟩
          · simp at h0; exact ⟨none, 0, 0, h0⟩
          · simp at h0; exact ⟨_, _, _, h0⟩
        obtain ⟨q, ql, qc, rfl⟩ := hsl
        obtain ⟨k1, xs, k2, k3⟩ := toks_of_trod e1
        have h0 := hat 0 (by omega)
        have h1 := hat 1 (by omega)
        exact ⟨⟨zd, q, ql, qc, xs⟩, by simpa [Addr.add] using h0, by simpa [Addr.add] using h1, bounds_i64 w0, k1, k2, k3⟩
    obtain ⟨zs, hz1, hz2⟩ := list_of len key
    exact ⟨zs, hz1, fun i z hz => ⟨a, rfl, hz2 i z hz⟩⟩

end Go.Proofs.YtalbcgbfefgjfaaDoor
