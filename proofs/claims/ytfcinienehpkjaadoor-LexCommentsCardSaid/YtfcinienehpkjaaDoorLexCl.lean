
/-
  slices.Clone OF BYTES; bytes of the call's own.
-/
import Derived.Test.YtfcinienehpkjaaDoorLexLj
import Derived.Laws.BytesArg
namespace Go.Proofs.YtfcinienehpkjaaDoor
open Go Go.RowKit

/-- Bytes of the call's own. -/
structure OwnB (base : Nat) (w : World) (q : Option Addr) (n : Nat) (xs : List Int) : Prop where
  len : xs.length = n
  own : (q = none ∧ n = 0) ∨ ∃ g, q = some ⟨g, 0, none⟩ ∧ base ≤ g ∧ (∀ j, j < n → w.cell? ⟨g, j, none⟩ = some (.int .u8 (xs.getD j 0))) ∧ ∀ j, j < n → w.frozen? ⟨g, j, none⟩ = false

theorem ownB_of {w : World} {base n cap : Nat} {q : Option Addr} {e : TypeId} {xs : List Int} (hl : xs.length = n) (h : w.ownsRow base e 1 (.slice q n cap) n (xs.map (Value.int .u8))) : OwnB base w q n xs := by
  refine ⟨hl, ?_⟩
  rcases h.2 with ⟨he, h0⟩ | ⟨g, c, cur, he, hb, hg, hc, _, hs, ht⟩
  · cases he; exact Or.inl ⟨rfl, h0⟩
  · cases he
    refine Or.inr ⟨g, rfl, hb, fun j hj => ?_, fun j _ => by simp [World.frozen?, hg]⟩
    have h1 : (cur.toList.take (n * 1))[j]? = (xs.map (Value.int .u8))[j]? := by rw [ht]
    rw [List.getElem?_take_of_lt (by omega)] at h1
    simp only [World.cell?, hg]
    simp at h1 ⊢
    rw [h1]
    simp [List.getElem?_eq_getElem (show j < xs.length by omega)]
theorem OwnB.conv {base : Nat} {w : World} {q : Option Addr} {n cap : Nat} {xs : List Int} (h : OwnB base w q n xs) : (convert 45 9 (.slice q n cap)).run Tryd.prog w = .ok (.string (strOfNums xs)) w := by
  rcases h.own with ⟨rfl, h0⟩ | ⟨g, rfl, _, hc, _⟩
  · have hx : xs = [] := List.length_eq_zero_iff.1 (h.len.trans h0)
    subst hx
    exact run_convert_bytes_nil w 45 5 Tryd.underlying45 Tryd.underlying5 n cap _ Tryd.underlying9
  · exact run_convert_bytes_arg w 45 5 Tryd.underlying45 Tryd.underlying5 g 0 n cap xs h.len (fun i hi => by rw [Nat.zero_add]; exact hc i hi) _ Tryd.underlying9

theorem bytes_nil (w : World) (a : Option Addr) (n c n' c' : Nat) : (binOp .eql 45 (.slice a n c) (.slice none n' c')).run Tryd.prog w = .ok (.bool a.isNone) w := Lib.run_eql_slice_nil w _ _ a n c n' c' Tryd.underlying45
set_option maxRecDepth 100000 in
theorem clone_some (ad : Addr) (n c : Nat) (bs : List Int) (w : World) (hl : bs.length = n) (hn : n ≤ 100) (hc : ∀ j x, bs[j]? = some x → w.cell? (ad.add j) = some (.int .u8 x)) :
    Calls Tryd.prog 33 #[.slice (some ad) n c] w fun e w' => ∃ q cap, e = .returned (.slice q n cap) ∧ OwnB w.heap.size w' q n bs ∧ Below w.heap.size w w' := by
  have HC := Lib.hid hc
  have HL := Lib.hid hl
  obtain ⟨i0, hi, hz0, hz1, hz2⟩ := info_parts (show (Tryd.prog.info? 5).map (fun i => (i.zero, i.size, i.bytes)) = some (some (.int .u8 0), 1, 1) by kernel_rfl)
  clear hc hl
  have q45 := bytes_nil
  go_enter Tryd.func33, Tryd.ntmps33
  go_wp2_with (at_builtin; refine wpList_append_own _ rfl _ _ 45 rfl w.heap.size 5 i0 (.int .u8 0) 1 1 Tryd.underlying45 hi hz0 hz1 hz2 rfl (by decide) _ _ _ rfl (World.ownsRow_made w #[] 0 (Nat.le_refl _) (Nat.zero_le _) rfl) ad n c (bs.map (Value.int .u8)) rfl ?qc1 ?qc2 ?qc3 ?qc4 ?qc5 ?qc6 ?_)
  case qc1 => simp [HL.out]
  case qc2 =>
    intro j u hj
    rw [List.getElem?_map] at hj
    cases hx : bs[j]? with
    | none => rw [hx] at hj; cases hj
    | some x =>
      rw [hx] at hj
      obtain rfl := Option.some.inj hj
      exact Lib.cell?_alloc_some _ (HC.out j x hx)
  case qc3 => intro u hu; obtain ⟨x, _, rfl⟩ := List.mem_map.1 hu; rfl
  case qc4 => unfold maxLen; omega
  case qc5 => omega
  case qc6 => simp
  intro v' w1 hown hgrow _
  have hown' : w1.ownsRow w.heap.size 5 1 v' n (bs.map (Value.int .u8)) := by simpa using hown
  obtain ⟨q, cap, rfl⟩ := row_slice hown'
  have HO := Lib.hid (ownB_of HL.out hown')
  have HB := Lib.hid (((Below.refl w.heap.size w).alloc (Nat.le_refl _) _).grown hgrow (by simp) (by intro k hk; simp [Value.ownBlock] at hk; omega))
  clear hown hgrow hown'
  go_wp2
  go_returns
  exact ⟨q, cap, rfl, HO.out, HB.out⟩
set_option maxRecDepth 100000 in
theorem clone_none (n c : Nat) (w : World) : Calls Tryd.prog 33 #[.slice none n c] w fun e w' => e = .returned (.slice none 0 0) ∧ Below w.heap.size w w' := by
  have q45 := bytes_nil
  go_enter Tryd.func33, Tryd.ntmps33
  go_wp2
  go_returns
  exact ⟨rfl, Below.refl _ _⟩

end Go.Proofs.YtfcinienehpkjaaDoor
