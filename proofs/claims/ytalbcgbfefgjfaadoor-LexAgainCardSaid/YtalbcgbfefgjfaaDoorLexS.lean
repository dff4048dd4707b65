
/-
  THE REFERENCE's Name, May.
-/
import Derived.Test.YtalbcgbfefgjfaaDoorLexR
namespace Go.Proofs.YtalbcgbfefgjfaaDoor
open Go Go.RowKit

theorem nameB_of {s : ByteArray} (h : 1 ≤ s.size ∧ s.size ≤ 32) (hp : 0 < s.size) {b1 b2 b3 : Bool} (e1 : letterB (s[0]'hp).toNat = b1) (e2 : decide (wordN s.toList = s.size) = b2) (e3 : keyB s = b3) : nameB s.toList = (b1 && b2 && !b3) := by
  have hlen := length_toList s
  have hhd : (s.toList.headD 0).toNat = (s[0]'hp).toNat := by
    rw [← getD_data s 0 hp]
    cases s.toList <;> rfl
  unfold nameB
  rw [decide_eq_true (by omega), hhd, e1, hlen, e2]
  unfold keyB at e3
  rw [e3]
  simp
theorem nameB_no {s : ByteArray} (h : ¬ (1 ≤ s.size ∧ s.size ≤ 32)) : nameB s.toList = false := by
  have hlen := length_toList s
  unfold nameB
  rw [decide_eq_false (by omega)]
  simp

set_option maxHeartbeats 1000000 in
theorem rname_any (s : ByteArray) (w : World) (hs : s.size ≤ 9223372036854775807) : Calls Tryd.prog 14 #[.string s] w (Gives w (.bool (nameB s.toList))) := by
  by_cases h32 : 32 < s.size
  · rw [nameB_no (by omega)]
    go_enter Tryd.func14, Tryd.ntmps14
    go_wp2
    go_returns
    exact ⟨rfl, by (repeat' (first | (with_reducible exact Below.refl _ _) | (with_reducible assumption) | (with_reducible refine boxed ?_ _) | (with_reducible refine Below.drew ?_) | (with_reducible refine after ?_ (by assumption))))⟩
  by_cases h0 : s.size < 1
  · rw [nameB_no (by omega)]
    have hz : s.size = 0 := by omega
    go_enter Tryd.func14, Tryd.ntmps14
    go_wp2
    go_returns
    exact ⟨rfl, by (repeat' (first | (with_reducible exact Below.refl _ _) | (with_reducible assumption) | (with_reducible refine boxed ?_ _) | (with_reducible refine Below.drew ?_) | (with_reducible refine after ?_ (by assumption))))⟩
  have hpos : 0 < s.size := by omega
  have NB : Hid (∀ b1 b2 b3 : Bool, letterB (s[0]'hpos).toNat = b1 → decide (wordN s.toList = s.size) = b2 → keyB s = b3 → nameB s.toList = (b1 && b2 && !b3)) := fun _ _ _ e1 e2 e3 => nameB_of ⟨by omega, by omega⟩ hpos e1 e2 e3
  cases h1 : letterB (s[0]'hpos).toNat
  · rw [NB.out _ _ _ h1 rfl rfl, Bool.false_and, Bool.false_and]
    clear NB
    go_enter Tryd.func14, Tryd.ntmps14
    go_wp2_with (go_at_call 44; refine (rletter_any _ _).mono ?_; rintro e w1 ⟨rfl, rfl⟩; rw [h1])
    go_returns
    exact ⟨rfl, by (repeat' (first | (with_reducible exact Below.refl _ _) | (with_reducible assumption) | (with_reducible refine boxed ?_ _) | (with_reducible refine Below.drew ?_) | (with_reducible refine after ?_ (by assumption))))⟩
  cases h3 : keyB s
  · obtain ⟨b2, hb2⟩ : ∃ b2, decide (wordN s.toList = s.size) = b2 := ⟨_, rfl⟩
    have HB2 := Lib.hid hb2
    rw [NB.out _ _ _ h1 hb2 h3, Bool.true_and, Bool.not_false, Bool.and_true]
    clear NB hb2
    go_enter Tryd.func14, Tryd.ntmps14
    go_wp2_with (first | (go_at_call 44; refine (rletter_any _ _).mono ?_; rintro e w1 ⟨rfl, rfl⟩; rw [h1]) | (go_at_call 16; refine (rkey_any _ _).mono ?_; rintro e w1 ⟨rfl, hb⟩; rw [h3]; have HW := Lib.hid hb; clear hb))
    go_loop [3] (fun i => ∃ k : Nat, k ≤ s.size ∧ i = .int .i64 k ∧ ∀ m, m < k → wordU (s.toList.getD m 0) = true) (fun i => s.size - (intOf i).toNat)
    case atStart => exact ⟨0, Nat.zero_le _, rfl, fun m hm => by omega⟩
    case round =>
      obtain ⟨k, hk, rfl, hall⟩ := hrel
      have HA := Lib.hid hall
      clear hall
      by_cases hlt : k < s.size
      · have hgd := getD_data s k hlt
        cases hw : wordB (s[k]'hlt).toNat
        · have hn : wordN s.toList = k := wordN_eq s.toList k (by rw [length_toList]; omega) HA.out (Or.inr (by rw [hgd]; exact hw))
          obtain rfl : b2 = false := by
            rw [← HB2.out]
            exact decide_eq_false (by omega)
          clear hgd hn
          go_wp2_with (go_at_call 45; refine (rwordByte_any _ _).mono ?_; rw [hw]; rintro e w2 ⟨rfl, rfl⟩)
          go_returns
          exact ⟨rfl, HW.out⟩
        · have HU : Hid (wordU (s.toList.getD k 0) = true) := by show _ = _; rw [hgd]; exact hw
          clear hgd
          go_wp2_with (go_at_call 45; refine (rwordByte_any _ _).mono ?_; rw [hw]; rintro e w2 ⟨rfl, rfl⟩)
          go_round
          case rel =>
            refine ⟨k + 1, by omega, by go_num, fun m hm => ?_⟩
            by_cases e : m = k
            · rw [e]; exact HU.out
            · exact HA.out m (by omega)
          case measure => simp [intOf]; omega
      · obtain rfl : k = s.size := by omega
        have hn : wordN s.toList = s.size := wordN_eq s.toList s.size (by rw [length_toList]; omega) HA.out (Or.inl (length_toList s).symm)
        obtain rfl : b2 = true := by
          rw [← HB2.out]
          exact decide_eq_true hn
        clear hn
        go_wp2
        go_returns
        exact ⟨rfl, HW.out⟩
  · rw [NB.out _ _ _ h1 rfl h3, Bool.not_true, Bool.and_false]
    clear NB
    go_enter Tryd.func14, Tryd.ntmps14
    go_wp2_with (first | (go_at_call 44; refine (rletter_any _ _).mono ?_; rintro e w1 ⟨rfl, rfl⟩; rw [h1]) | (go_at_call 16; refine (rkey_any _ _).mono ?_; rintro e w1 ⟨rfl, hb⟩; rw [h3]))
    go_returns
    exact ⟨rfl, hb⟩

theorem rmay_any (k line : Int) (t : ByteArray) (n : Int) (w : World) (hs : t.size ≤ 9223372036854775807) : Calls Tryd.prog 21 #[.agg #[.int .u8 k, .int .i64 line, .string t, .int .i64 n]] w (Gives w (.bool (mayB k t n))) := by
  by_cases h1 : k = 1
  · subst h1
    rw [show mayB 1 t n = (nameB t.toList && n == 0) from rfl]
    cases h2 : nameB t.toList
    all_goals cases h3 : (n == 0)
    all_goals
      go_enter Tryd.func21, Tryd.ntmps21
      go_wp2_with (go_at_call 14; refine (rname_any _ _ hs).mono ?_; rw [h2]; rintro e w1 ⟨rfl, hb⟩; obtain ⟨hc1, hf1⟩ := belowC hb)
      go_returns
      exact ⟨rfl, by (repeat' (first | (with_reducible exact Below.refl _ _) | (with_reducible assumption) | (with_reducible refine boxed ?_ _) | (with_reducible refine Below.drew ?_) | (with_reducible refine after ?_ (by assumption))))⟩
  · by_cases h2 : k = 2
    · subst h2
      rw [show mayB 2 t n = (keyB t && n == 0) from rfl]
      cases h2 : keyB t
      all_goals cases h3 : (n == 0)
      all_goals
        go_enter Tryd.func21, Tryd.ntmps21
        go_wp2_with (go_at_call 16; refine (rkey_any _ _).mono ?_; rw [h2]; rintro e w1 ⟨rfl, hb⟩; obtain ⟨hc1, hf1⟩ := belowC hb)
        go_returns
        exact ⟨rfl, by (repeat' (first | (with_reducible exact Below.refl _ _) | (with_reducible assumption) | (with_reducible refine boxed ?_ _) | (with_reducible refine Below.drew ?_) | (with_reducible refine after ?_ (by assumption))))⟩
    · by_cases h4 : k = 4
      · subst h4
        rw [show mayB 4 t n = (symB t && n == 0) from rfl]
        cases h2 : symB t
        all_goals cases h3 : (n == 0)
        all_goals
          go_enter Tryd.func21, Tryd.ntmps21
          go_wp2_with (go_at_call 18; refine (rsymbol_any _ _).mono ?_; rw [h2]; rintro e w1 ⟨rfl, hb⟩; obtain ⟨hc1, hf1⟩ := belowC hb)
          go_returns
          exact ⟨rfl, by (repeat' (first | (with_reducible exact Below.refl _ _) | (with_reducible assumption) | (with_reducible refine boxed ?_ _) | (with_reducible refine Below.drew ?_) | (with_reducible refine after ?_ (by assumption))))⟩
      · by_cases h3 : k = 3
        · subst h3
          rw [show mayB 3 t n = (t.toList == [] && decide (0 ≤ n ∧ n ≤ 2147483647)) from rfl]
          by_cases he : t.toList = []
          · by_cases g1 : 0 ≤ n
            all_goals by_cases g2 : n ≤ 2147483647
            all_goals try (exfalso; omega)
            all_goals first | rw [decide_eq_true (p := 0 ≤ n ∧ n ≤ 2147483647) (by omega)] | rw [decide_eq_false (p := 0 ≤ n ∧ n ≤ 2147483647) (by omega)]
            all_goals rw [he]
            all_goals
              go_enter Tryd.func21, Tryd.ntmps21
              go_wp2
              go_returns
              exact ⟨rfl, by (repeat' (first | (with_reducible exact Below.refl _ _) | (with_reducible assumption) | (with_reducible refine boxed ?_ _) | (with_reducible refine Below.drew ?_) | (with_reducible refine after ?_ (by assumption))))⟩
          · have hb : (t.toList == []) = false := beq_eq_false_iff_ne.2 he
            rw [hb, Bool.false_and]
            clear he
            go_enter Tryd.func21, Tryd.ntmps21
            go_wp2
            go_returns
            exact ⟨rfl, by (repeat' (first | (with_reducible exact Below.refl _ _) | (with_reducible assumption) | (with_reducible refine boxed ?_ _) | (with_reducible refine Below.drew ?_) | (with_reducible refine after ?_ (by assumption))))⟩
        · rw [show mayB k t n = false by unfold mayB; rw [if_neg h1, if_neg h2, if_neg h4, if_neg h3]]
          have b1 : (k == 1) = false := beq_eq_false_iff_ne.2 h1
          have b2 : (k == 2) = false := beq_eq_false_iff_ne.2 h2
          have b3 : (k == 3) = false := beq_eq_false_iff_ne.2 h3
          have b4 : (k == 4) = false := beq_eq_false_iff_ne.2 h4
          clear h1 h2 h3 h4
          go_enter Tryd.func21, Tryd.ntmps21
          go_wp2
          go_returns
          exact ⟨rfl, by (repeat' (first | (with_reducible exact Below.refl _ _) | (with_reducible assumption) | (with_reducible refine boxed ?_ _) | (with_reducible refine Below.drew ?_) | (with_reducible refine after ?_ (by assumption))))⟩

end Go.Proofs.YtalbcgbfefgjfaaDoor
