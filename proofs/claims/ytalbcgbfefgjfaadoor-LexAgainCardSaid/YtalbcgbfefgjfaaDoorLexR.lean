
/-
  THE REFERENCE's LEAVES: letter, digit, wordByte, In, Keys, Symbols, Key, Symbol, word, Name.
-/
import Derived.Test.YtalbcgbfefgjfaaDoorLexM

namespace Go.Proofs.YtalbcgbfefgjfaaDoor
open Go Go.RowKit

theorem rletter_any (c : Int) (w : World) : Calls Tryd.prog 44 #[.int .u8 c] w fun e w' => e = .returned (.bool (letterB c)) ∧ w = w' := by
  by_cases h1 : 65 ≤ c
  all_goals by_cases h2 : c ≤ 90
  all_goals by_cases h3 : 97 ≤ c
  all_goals by_cases h4 : c ≤ 122
  all_goals
    go_enter Tryd.func44, Tryd.ntmps44
    go_wp2
    go_returns
    exact ⟨by first | (rw [letterB, decide_eq_true (by omega)]; rfl) | (rw [letterB, decide_eq_false (by omega)]; rfl), rfl⟩

theorem rdigit_any (c : Int) (w : World) : Calls Tryd.prog 71 #[.int .u8 c] w fun e w' => e = .returned (.bool (digitB c)) ∧ w = w' := by
  by_cases h1 : 48 ≤ c
  all_goals by_cases h2 : c ≤ 57
  all_goals
    go_enter Tryd.func71, Tryd.ntmps71
    go_wp2
    go_returns
    exact ⟨by first | (rw [digitB, decide_eq_true (by omega)]; rfl) | (rw [digitB, decide_eq_false (by omega)]; rfl), rfl⟩

theorem rwordByte_any (c : Int) (w : World) : Calls Tryd.prog 45 #[.int .u8 c] w fun e w' => e = .returned (.bool (wordB c)) ∧ w = w' := by
  unfold wordB
  cases h1 : letterB c
  all_goals cases h2 : digitB c
  all_goals cases h3 : (c == 95)
  all_goals
    go_enter Tryd.func45, Tryd.ntmps45
    go_wp2_with (first | (go_at_call 44; refine (rletter_any _ _).mono ?_; rintro e w1 ⟨rfl, rfl⟩; rw [h1]) | (go_at_call 71; refine (rdigit_any _ _).mono ?_; rintro e w1 ⟨rfl, rfl⟩; rw [h2]))
    go_returns
    exact ⟨rfl, rfl⟩

/-- A row of strings. -/
def Strs (w : World) (b n : Nat) (ls : List (List UInt8)) : Prop := ls.length = n ∧ ∀ i, i < n → ∃ s : ByteArray, w.cell? ⟨b, i, none⟩ = some (.string s) ∧ s.toList = ls.getD i []

theorem rin_any (s : ByteArray) (b n cap : Nat) (ls : List (List UInt8)) (w : World) (hn : n ≤ 1000) (hs : Strs w b n ls) :
    Calls Tryd.prog 46 #[.slice (some ⟨b, 0, none⟩) n cap, .string s] w fun e w' => e = .returned (.bool (ls.contains s.toList)) ∧ w = w' := by
  have HS := Lib.hid hs
  obtain ⟨cb, hcb⟩ : ∃ cb, ls.contains s.toList = cb := ⟨_, rfl⟩
  rw [hcb]
  have HB := Lib.hid hcb
  clear hs hcb
  go_enter Tryd.func46, Tryd.ntmps46
  go_wp2
  go_loop [5] (fun i => ∃ k : Nat, k ≤ n ∧ i = .int .i64 k ∧ ∀ m, m < k → ¬ s.toList = ls.getD m []) (fun i => n - (intOf i).toNat)
  case atStart => exact ⟨0, Nat.zero_le _, rfl, fun m hm => by omega⟩
  case round =>
    obtain ⟨k, hk, rfl, hno⟩ := hrel
    have HN := Lib.hid hno
    clear hno
    by_cases hlt : k < n
    · obtain ⟨t, ht, htl⟩ := HS.out.2 k hlt
      have HT := Lib.hid htl
      clear htl
      cases he : (t.toList == s.toList)
      · go_wp2
        go_round
        case rel =>
          refine ⟨k + 1, by omega, by go_num, fun m hm => ?_⟩
          by_cases e : m = k
          · rw [e, ← HT.out]
            exact fun h => beq_eq_false_iff_ne.1 he h.symm
          · exact HN.out m (by omega)
        case measure => simp [intOf]; omega
      · have hc : ls.contains s.toList = true := by
          rw [List.contains_iff_mem, ← eq_of_beq he, HT.out, List.getD_eq_getElem?_getD, List.getElem?_eq_getElem (by have := HS.out.1; omega)]
          exact List.getElem_mem _
        obtain rfl : cb = true := HB.out.symm.trans hc
        have he' : t.toList = s.toList := eq_of_beq he
        clear hc he
        go_wp2
        go_returns
        exact ⟨rfl, rfl⟩
    · obtain rfl : k = n := by omega
      have hc : ls.contains s.toList = false := by
        cases h : ls.contains s.toList with
        | false => rfl
        | true =>
          rw [List.contains_iff_mem] at h
          obtain ⟨m, hm, e⟩ := List.getElem_of_mem h
          refine absurd ?_ (HN.out m (by have := HS.out.1; omega))
          rw [List.getD_eq_getElem?_getD, List.getElem?_eq_getElem hm]
          exact e.symm
      obtain rfl : cb = false := HB.out.symm.trans hc
      clear hc
      go_wp2
      go_returns
      exact ⟨rfl, rfl⟩

theorem strs_alloc (w : World) (ls : List (List UInt8)) (t : TypeId) : Strs (w.alloc (.cells (ls.map fun l => Value.string ⟨l.toArray⟩).toArray t)) w.heap.size ls.length ls := by
  refine ⟨rfl, fun i hi => ⟨⟨(ls.getD i []).toArray⟩, ?_, ?_⟩⟩
  · rw [World.cell?_alloc_at _ _ _ _ rfl]
    simp [List.getD_eq_getElem?_getD, hi]
  · rw [ByteArray.toList_eq]

/-- The row of the reserved words. -/
theorem rkeys_any (w : World) : Calls Tryd.prog 47 #[] w fun e w' => e = .returned (.slice (some ⟨w.heap.size, 0, none⟩) 63 63) ∧ Below w.heap.size w w' ∧ Strs w' w.heap.size 63 keyL := by
  go_enter Tryd.func47, Tryd.ntmps47
  go_wp2
  go_returns
  exact ⟨rfl, by (repeat' (first | (with_reducible exact Below.refl _ _) | (with_reducible assumption) | (with_reducible refine boxed ?_ _) | (with_reducible refine Below.drew ?_) | (with_reducible refine after ?_ (by assumption)))), strs_alloc w keyL _⟩
theorem rsymbols_any (w : World) : Calls Tryd.prog 48 #[] w fun e w' => e = .returned (.slice (some ⟨w.heap.size, 0, none⟩) 22 22) ∧ Below w.heap.size w w' ∧ Strs w' w.heap.size 22 symL := by
  go_enter Tryd.func48, Tryd.ntmps48
  go_wp2
  go_returns
  exact ⟨rfl, by (repeat' (first | (with_reducible exact Below.refl _ _) | (with_reducible assumption) | (with_reducible refine boxed ?_ _) | (with_reducible refine Below.drew ?_) | (with_reducible refine after ?_ (by assumption)))), strs_alloc w symL _⟩

theorem rkey_any (s : ByteArray) (w : World) : Calls Tryd.prog 16 #[.string s] w (Gives w (.bool (keyB s))) := by
  obtain ⟨b, hb⟩ : ∃ b, keyB s = b := ⟨_, rfl⟩
  have HK : Hid (keyL.contains s.toList = b) := hb
  rw [hb]
  clear hb
  go_enter Tryd.func16, Tryd.ntmps16
  go_wp2_with fail
  refine (rkeys_any _).mono ?_
  rintro e w1 ⟨rfl, hb1, hs⟩
  have HS := Lib.hid hs
  clear hs
  go_wp2_with fail
  refine (rin_any _ _ _ _ _ _ (by omega) HS.out).mono ?_
  rw [HK.out]
  rintro e w2 ⟨rfl, rfl⟩
  go_wp2_with fail
  go_returns
  exact ⟨rfl, hb1⟩
theorem rsymbol_any (s : ByteArray) (w : World) : Calls Tryd.prog 18 #[.string s] w (Gives w (.bool (symB s))) := by
  obtain ⟨b, hb⟩ : ∃ b, symB s = b := ⟨_, rfl⟩
  have HK : Hid (symL.contains s.toList = b) := hb
  rw [hb]
  clear hb
  go_enter Tryd.func18, Tryd.ntmps18
  go_wp2_with fail
  refine (rsymbols_any _).mono ?_
  rintro e w1 ⟨rfl, hb1, hs⟩
  have HS := Lib.hid hs
  clear hs
  go_wp2_with fail
  refine (rin_any _ _ _ _ _ _ (by omega) HS.out).mono ?_
  rw [HK.out]
  rintro e w2 ⟨rfl, rfl⟩
  go_wp2_with fail
  go_returns
  exact ⟨rfl, hb1⟩

/-- The reference's word. -/
theorem rword_any (s : ByteArray) (w : World) (hs : s.size ≤ 9223372036854775807) : Calls Tryd.prog 76 #[.string s] w fun e w' => e = .returned (.int .i64 (wordN s.toList)) ∧ w = w' := by
  go_enter Tryd.func76, Tryd.ntmps76
  go_wp2
  go_loop [3] (fun i => ∃ k : Nat, k ≤ s.size ∧ i = .int .i64 k ∧ ∀ m, m < k → wordU (s.toList.getD m 0) = true) (fun i => s.size - (intOf i).toNat)
  case atStart => exact ⟨0, Nat.zero_le _, rfl, fun m hm => by omega⟩
  case round =>
    obtain ⟨k, hk, rfl, hall⟩ := hrel
    have HA := Lib.hid hall
    clear hall
    by_cases hlt : k < s.size
    · have hgd := getD_data s k hlt
      cases hw : wordB (s[k]'hlt).toNat
      · have HU : Hid (wordU (s.toList.getD k 0) = false) := by show _ = _; rw [hgd]; exact hw
        clear hgd
        go_wp2_with (go_at_call 45; refine (rwordByte_any _ _).mono ?_; rw [hw]; rintro e w1 ⟨rfl, rfl⟩)
        go_returns
        exact ⟨by rw [wordN_eq s.toList k (by rw [length_toList]; omega) HA.out (Or.inr HU.out)]; rfl, rfl⟩
      · have HU : Hid (wordU (s.toList.getD k 0) = true) := by show _ = _; rw [hgd]; exact hw
        clear hgd
        go_wp2_with (go_at_call 45; refine (rwordByte_any _ _).mono ?_; rw [hw]; rintro e w1 ⟨rfl, rfl⟩)
        go_round
        case rel =>
          refine ⟨k + 1, by omega, by go_num, fun m hm => ?_⟩
          by_cases e : m = k
          · rw [e]; exact HU.out
          · exact HA.out m (by omega)
        case measure => simp [intOf]; omega
    · obtain rfl : k = s.size := by omega
      go_wp2
      go_returns
      exact ⟨by rw [wordN_eq s.toList s.size (by rw [length_toList]; omega) HA.out (Or.inl (length_toList s).symm)]; rfl, rfl⟩

end Go.Proofs.YtalbcgbfefgjfaaDoor
