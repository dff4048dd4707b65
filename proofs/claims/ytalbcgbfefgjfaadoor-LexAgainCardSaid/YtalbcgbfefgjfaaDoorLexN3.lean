
/-
  THE REFERENCE's Tokens.
-/
import Derived.Test.YtalbcgbfefgjfaaDoorLexN2
import Derived.Test.YtalbcgbfefgjfaaDoorLexZ
namespace Go.Proofs.YtalbcgbfefgjfaaDoor
open Go Go.RowKit

theorem row_below {X Y : World} {base n size : Nat} {e : TypeId} {v : Value} {xs : List Value} (h : X.ownsRow base e size v n xs) (hb : Below X.heap.size X Y) : Y.ownsRow base e size v n xs :=
  h.kept (row := none) ⟨hb.os, hb.tape, hb.output, hb.size, fun k hk _ => hb.block k hk⟩ (by cases v.ownBlock <;> simp)
theorem row_slice {X : World} {base n size : Nat} {e : TypeId} {v : Value} {xs : List Value} (h : X.ownsRow base e size v n xs) : ∃ p cap, v = .slice p n cap := by
  rcases h.2 with ⟨rfl, rfl⟩ | ⟨g, cap, cur, rfl, _⟩
  · exact ⟨none, 0, rfl⟩
  · exact ⟨_, cap, rfl⟩

theorem one_good {l : List UInt8} (h : oneN l ≠ 0) : goodB (l.take (pieceN l)) = true ∧ oneN l = pieceN l := by
  unfold oneN at h ⊢
  split at h
  · rename_i hg; exact ⟨hg, by rw [if_pos hg]⟩
  · exact absurd rfl h
theorem one_bad {l : List UInt8} (h : oneN l = 0) : goodB (l.take (pieceN l)) = false := by
  unfold oneN at h
  split at h
  · have := pieceN_pos l; omega
  · rename_i hg; simpa using hg

/-- A note, its first bytes read. -/
theorem note_front (l : List UInt8) : ∀ k, k ≤ l.length → (∀ i, i < k → l.getD i 0 ≠ 10) → (k = l.length ∨ l.getD k 0 = 10) → l.takeWhile inLine = l.take k ∧ l.dropWhile inLine = l.drop k := by
  induction l with
  | nil => intro k hk _ _; simp at hk; subst hk; simp
  | cons c r ih =>
    intro k hk ha he
    cases k with
    | zero =>
      rcases he with he | he
      · simp at he
      · simp at he; subst he; simp [inLine]
    | succ k =>
      have h0 := ha 0 (by omega)
      simp at h0
      have := ih k (by simpa using hk) (fun i hi => by have := ha (i + 1) (by omega); simpa using this) (by simpa using he)
      rw [List.takeWhile_cons, if_pos (by simpa [inLine] using h0), List.dropWhile_cons, if_pos (by simpa [inLine] using h0), this.1, this.2]
      simp
theorem note_bad (l : List UInt8) (k : Nat) (hk : k < l.length) (ha : ∀ i, i < k → l.getD i 0 ≠ 10) (h10 : l.getD k 0 ≠ 10) (hp : printU (l.getD k 0) = false) : (l.takeWhile inLine).all printU = false := by
  induction l generalizing k with
  | nil => simp at hk
  | cons c r ih =>
    cases k with
    | zero =>
      simp at h10 hp
      rw [List.takeWhile_cons, if_pos (by simpa [inLine] using h10), List.all_cons, hp]; rfl
    | succ k =>
      have h0 := ha 0 (by omega)
      simp at h0
      rw [List.takeWhile_cons, if_pos (by simpa [inLine] using h0), List.all_cons, ih k (by simpa using hk) (fun i hi => by have := ha (i + 1) (by omega); simpa using this) (by simpa using h10) (by simpa using hp)]
      simp
theorem getD_drop (l : List UInt8) (i j : Nat) : (l.drop i).getD j 0 = l.getD (i + j) 0 := by
  rw [List.getD_eq_getElem?_getD, List.getElem?_drop, ← List.getD_eq_getElem?_getD]
theorem note_ok (l : List UInt8) (n : Nat) (hn : n ≤ l.length) (ha : ∀ i, i < n → l.getD i 0 ≠ 10 ∧ printU (l.getD i 0) = true) (he : n = l.length ∨ l.getD n 0 = 10) : (l.takeWhile inLine).all printU = true ∧ l.dropWhile inLine = l.drop n := by
  obtain ⟨h1, h2⟩ := note_front l n hn (fun i hi => (ha i hi).1) he
  refine ⟨?_, h2⟩
  rw [h1, all_getD]
  intro i hi
  rw [List.length_take] at hi
  have := (ha i (by omega)).2
  rw [List.getD_eq_getElem?_getD] at this ⊢
  rw [List.getElem?_take_of_lt (by omega)]
  exact this
theorem note_at (s : ByteArray) (k j : Nat) (hkj : k ≤ j) (hj : j ≤ s.size) (hall : ∀ t, k ≤ t → t < j → s.toList.getD t 0 ≠ 10 ∧ printU (s.toList.getD t 0) = true) (he : j = s.size ∨ s.toList.getD j 0 = 10) :
    ((s.toList.drop k).takeWhile inLine).all printU = true ∧ (s.toList.drop k).dropWhile inLine = s.toList.drop j := by
  have hl := length_toList s
  obtain ⟨h1, h2⟩ := note_ok (s.toList.drop k) (j - k) (by rw [List.length_drop]; omega) (fun i hi => by rw [getD_drop]; exact hall (k + i) (by omega) (by omega))
    (he.elim (fun h => Or.inl (by rw [List.length_drop]; omega)) (fun h => Or.inr (by rw [getD_drop, show k + (j - k) = j by omega]; exact h)))
  exact ⟨h1, by rw [h2, List.drop_drop, show k + (j - k) = j by omega]⟩
theorem note_bad_at (s : ByteArray) (k j : Nat) (hkj : k ≤ j) (hj : j < s.size) (hall : ∀ t, k ≤ t → t < j → s.toList.getD t 0 ≠ 10 ∧ printU (s.toList.getD t 0) = true) (h10 : s.toList.getD j 0 ≠ 10) (hp : printU (s.toList.getD j 0) = false) :
    ((s.toList.drop k).takeWhile inLine).all printU = false := by
  have hl := length_toList s
  have e : (s.toList.drop k).getD (j - k) 0 = s.toList.getD j 0 := by rw [getD_drop, show k + (j - k) = j by omega]
  exact note_bad (s.toList.drop k) (j - k) (by rw [List.length_drop]; omega) (fun i hi => by rw [getD_drop]; exact (hall (k + i) (by omega) (by omega)).1) (by rw [e]; exact h10) (by rw [e]; exact hp)
theorem two_dashes (l : List UInt8) (i : Nat) (h : i < l.length) : (l.drop i).take 2 = [45, 45] ↔ i + 1 < l.length ∧ l.getD i 0 = 45 ∧ l.getD (i + 1) 0 = 45 := by
  rw [drop_at l i h]
  by_cases h2 : i + 1 < l.length
  · rw [drop_at l (i + 1) h2]
    have e : ∀ (a b : UInt8) (t : List UInt8), (a :: b :: t).take 2 = [a, b] := fun _ _ _ => rfl
    rw [e, List.cons.injEq, List.cons.injEq]
    exact ⟨fun h => ⟨h2, h.1, h.2.1⟩, fun h => ⟨h.2.1, h.2.2, rfl⟩⟩
  · rw [List.drop_eq_nil_of_le (by omega)]
    simp [h2]

theorem below_append {B n size : Nat} {a X Y : World} {e : TypeId} {v : Value} {xs : List Value} (hb : Below B a X) (hB : B ≤ X.heap.size) (hrow : X.ownsRow B e size v n xs) (hg : X.grownBy Y v.ownBlock) : Below B a Y :=
  hb.grown hg hB (fun k hk => by
    rcases hrow.2 with ⟨rfl, _⟩ | ⟨g, cap, cur, rfl, hge, _⟩
    · simp [Value.ownBlock] at hk
    · simp [Value.ownBlock] at hk; omega)

set_option maxRecDepth 100000 in
set_option maxHeartbeats 8000000 in
theorem rtokens_any (s : ByteArray) (w : World) (hs : s.size ≤ 140737488355328) : Calls Tryd.prog 25 #[.string s] w (TokRes w (readL s.toList)) := by
  obtain ⟨r, hr⟩ : ∃ r, readL s.toList = r := ⟨_, rfl⟩
  rw [hr]
  have HR := Lib.hid hr
  have HLEN := Lib.hid (length_toList s)
  clear hr
  by_cases hlong : 65536 < s.size
  · obtain rfl : r = .no 0 3 := by rw [← HR.out, readL, if_pos (by rw [length_toList]; exact hlong)]
    go_enter Tryd.func25, Tryd.ntmps25
    go_wp2
    go_returns
    exact ⟨none, 0, rfl, World.ownsRow_nil _ _ _ _, by (repeat' (first | (with_reducible exact Below.refl _ _) | (with_reducible assumption) | (with_reducible refine boxed ?_ _) | (with_reducible refine Below.drew ?_) | (with_reducible refine after ?_ (by assumption))))⟩
  · have hshort : s.size ≤ 65536 := by omega
    have hr1 : lexL (s.toList.drop 0) 1 [] = r := by rw [← HR.out, readL, if_neg (by rw [length_toList]; exact hlong)]; rfl
    have HR1 := Lib.hid hr1
    clear hr1 hlong
    go_enter Tryd.func25, Tryd.ntmps25
    go_wp2
    go_loopw [5, 6, 7] (fun v ln i wr => ∃ (k line : Nat) (acc : List TokR) (p : Option Addr) (cap : Nat), k ≤ s.size ∧ line ≤ k + 1 ∧ i = .int .i64 k ∧ ln = .int .i64 line ∧ v = .slice p acc.length cap ∧ acc.length ≤ 8192 ∧ lexL (s.toList.drop k) line acc = r ∧
        wr.ownsRow w.heap.size 27 4 (.slice p acc.length cap) acc.length (tokCells acc) ∧ Below w.heap.size w wr) (fun _ _ i _ => s.size - (intOf i).toNat)
    case atStart => exact ⟨0, 1, [], none, 0, Nat.zero_le _, Nat.le_refl _, rfl, rfl, rfl, Nat.zero_le _, HR1.out, World.ownsRow_nil _ _ _ _, Below.refl _ _⟩
    case round =>
      obtain ⟨k, line, acc, p, cap, hk, hln, rfl, rfl, rfl, hacc, hlex, hrow, hbel⟩ := hrel
      have HX := Lib.hid hlex
      have HW := Lib.hid hrow
      have HB := Lib.hid hbel
      clear hlex hrow hbel
      by_cases hlt : k < s.size
      · have hgd := getD_data s k hlt
        have hd := drop_at s.toList k (by rw [HLEN.out]; exact hlt)
        have hc10 : s.toList.getD k 0 = 10 ↔ ((s[k]'hlt).toNat : Int) = 10 := by
          rw [hgd]
          constructor
          · intro e; rw [e]; rfl
          · intro e; exact UInt8.toNat_inj.1 (by have : (10 : UInt8).toNat = 10 := rfl; omega)
        have hc32 : s.toList.getD k 0 = 32 ↔ ((s[k]'hlt).toNat : Int) = 32 := by
          rw [hgd]
          constructor
          · intro e; rw [e]; rfl
          · intro e; exact UInt8.toNat_inj.1 (by have : (32 : UInt8).toNat = 32 := rfl; omega)
        have HD := Lib.hid hd
        have HC10 := Lib.hid hc10
        have HC32 := Lib.hid hc32
        have HGD := Lib.hid hgd
        clear hd hc10 hc32 hgd
        by_cases e10 : ((s[k]'hlt).toNat : Int) = 10
        · have b10 : (((s[k]'hlt).toNat : Int) == 10) = true := beq_iff_eq.2 e10
          have HX2 := Lib.hid (show lexL (s.toList.drop (k + 1)) (line + 1) acc = r by
            have := HX.out
            rw [HD.out, HC10.out.2 e10, lexL_feed] at this
            exact this)
          clear e10
          go_wp2
          go_roundw
          case rel => exact ⟨k + 1, line + 1, acc, p, cap, by omega, by omega, by go_num, by go_num, rfl, hacc, HX2.out, HW.out, HB.out⟩
          case measure => simp [intOf]; omega
        · have b10 : (((s[k]'hlt).toNat : Int) == 10) = false := beq_eq_false_iff_ne.2 e10
          have n10 := Lib.hid (fun e => e10 (HC10.out.1 e) : ¬ s.toList.getD k 0 = 10)
          clear e10
          by_cases e32 : ((s[k]'hlt).toNat : Int) = 32
          · have b32 : (((s[k]'hlt).toNat : Int) == 32) = true := beq_iff_eq.2 e32
            have HX2 := Lib.hid (show lexL (s.toList.drop (k + 1)) line acc = r by
              have := HX.out
              rw [HD.out, HC32.out.2 e32, lexL_space] at this
              exact this)
            clear e32
            go_wp2
            go_roundw
            case rel => exact ⟨k + 1, line, acc, p, cap, by omega, by omega, by go_num, rfl, rfl, hacc, HX2.out, HW.out, HB.out⟩
            case measure => simp [intOf]; omega
          · have b32 : (((s[k]'hlt).toNat : Int) == 32) = false := beq_eq_false_iff_ne.2 e32
            have n32 := Lib.hid (fun e => e32 (HC32.out.1 e) : ¬ s.toList.getD k 0 = 32)
            clear e32
            have HRL := Lib.hid (rest_list s k)
            by_cases hdash : (s.toList.drop k).take 2 = [45, 45]
            · obtain ⟨hk2, e1, e2⟩ := (two_dashes s.toList k (by rw [HLEN.out]; exact hlt)).1 hdash
              rw [HLEN.out] at hk2
              have hgd2 := getD_data s (k + 1) hk2
              have b45 : (((s[k]'hlt).toNat : Int) == 45) = true := by rw [← HGD.out, e1]; rfl
              have b45' : (((s[k + 1]'hk2).toNat : Int) == 45) = true := by rw [← hgd2, e2]; rfl
              have hki : (k : Int) + 1 < s.size := by omega
              have HNT := Lib.hid (show lexL (s.toList.drop k) line acc = if ((s.toList.drop k).takeWhile inLine).all printU then lexL ((s.toList.drop k).dropWhile inLine) line acc else .no line 20 from lexL_note hdash)
              clear hgd2 e1 e2 hdash n10 n32
              go_wp2
              obtain ⟨wo, rfl⟩ : ∃ wo : World, wo = wr := ⟨_, rfl⟩
              go_loop [7] (fun i => ∃ j : Nat, k ≤ j ∧ j ≤ s.size ∧ i = .int .i64 j ∧ ∀ t, k ≤ t → t < j → s.toList.getD t 0 ≠ 10 ∧ printU (s.toList.getD t 0) = true) (fun i => s.size - (intOf i).toNat)
              case atStart => exact ⟨k, Nat.le_refl _, hk, rfl, fun t h1 h2 => by omega⟩
              case round =>
                obtain ⟨j, hkj, hj, rfl, hall⟩ := hrel
                have HALL := Lib.hid hall
                clear hall
                by_cases hjl : j < s.size
                · have hgd3 := getD_data s j hjl
                  have hlo := (s[j]'hjl).toNat_lt
                  by_cases e10 : ((s[j]'hjl).toNat : Int) = 10
                  · have b10' : (((s[j]'hjl).toNat : Int) == 10) = true := beq_iff_eq.2 e10
                    have b10'' : (((s[j]'hjl).toNat : Int) != 10) = false := by simp [e10]
                    have hne : k ≠ j := fun e => by
                      subst e
                      rw [e10] at b45; revert b45; decide
                    have h10 : s.toList.getD j 0 = 10 := by rw [hgd3]; exact UInt8.toNat_inj.1 (by have : (10 : UInt8).toNat = 10 := rfl; omega)
                    obtain ⟨n1, n2⟩ := note_at s k j hkj hj HALL.out (Or.inr h10)
                    have HX2 := Lib.hid (show lexL (s.toList.drop j) line acc = r by rw [← HX.out, HNT.out, n1, if_pos rfl, n2])
                    clear e10 h10 n1 n2 hgd3 hlo
                    go_wp2
                    go_roundw
                    case rel => exact ⟨j, line, acc, p, cap, hj, by omega, rfl, rfl, rfl, hacc, HX2.out, HW.out, HB.out⟩
                    case measure => simp [intOf]; omega
                  · have b10' : (((s[j]'hjl).toNat : Int) == 10) = false := beq_eq_false_iff_ne.2 e10
                    have b10'' : (((s[j]'hjl).toNat : Int) != 10) = true := by simp [e10]
                    have h10 : s.toList.getD j 0 ≠ 10 := fun e => e10 (by rw [hgd3] at e; rw [e]; rfl)
                    have H10 := Lib.hid h10
                    have HG3 := Lib.hid hgd3
                    clear e10 h10 hgd3
                    by_cases hp1 : ((s[j]'hjl).toNat : Int) < 32
                    · have hno : r = .no line 20 := by
                        rw [← HX.out, HNT.out, note_bad_at s k j hkj hjl HALL.out H10.out (by rw [HG3.out]; exact decide_eq_false (by omega))]; rfl
                      have HNO := Lib.hid hno
                      clear hno
                      go_wp2
                      go_returns
                      exact ⟨none, 0, by rw [HNO.out]; rfl, by rw [HNO.out]; exact World.ownsRow_nil _ _ _ _, HB.out⟩
                    · by_cases hp2 : 126 < ((s[j]'hjl).toNat : Int)
                      · have hno : r = .no line 20 := by
                          rw [← HX.out, HNT.out, note_bad_at s k j hkj hjl HALL.out H10.out (by rw [HG3.out]; exact decide_eq_false (by omega))]; rfl
                        have HNO := Lib.hid hno
                        have hp1' : (32 : Int) ≤ ((s[j]'hjl).toNat : Int) := by omega
                        clear hno hp1
                        go_wp2
                        go_returns
                        exact ⟨none, 0, by rw [HNO.out]; rfl, by rw [HNO.out]; exact World.ownsRow_nil _ _ _ _, HB.out⟩
                      · have hp1' : (32 : Int) ≤ ((s[j]'hjl).toNat : Int) := by omega
                        have hp2' : ((s[j]'hjl).toNat : Int) ≤ 126 := by omega
                        have HPR := Lib.hid (show printU (s.toList.getD j 0) = true by rw [HG3.out]; exact decide_eq_true (by omega))
                        clear hp1 hp2
                        go_wp2
                        go_round
                        case rel =>
                          refine ⟨j + 1, by omega, by omega, by go_num, fun t h1 h2 => ?_⟩
                          by_cases e : t = j
                          · subst e; exact ⟨H10.out, HPR.out⟩
                          · exact HALL.out t h1 (by omega)
                        case measure => simp [intOf]; omega
                · obtain rfl : j = s.size := by omega
                  obtain ⟨n1, n2⟩ := note_at s k s.size hkj hj HALL.out (Or.inl rfl)
                  have HX2 := Lib.hid (show lexL (s.toList.drop s.size) line acc = r by rw [← HX.out, HNT.out, n1, if_pos rfl, n2])
                  clear n1 n2
                  go_wp2
                  go_roundw
                  case rel => exact ⟨s.size, line, acc, p, cap, Nat.le_refl _, by omega, rfl, rfl, rfl, hacc, HX2.out, HW.out, HB.out⟩
                  case measure => simp [intOf]; omega
            · have HTK := Lib.hid (show lexL (s.toList.drop k) line acc = if goodB ((s.toList.drop k).take (pieceN (s.toList.drop k))) then if acc.length = 8192 then .no line 3 else lexL ((s.toList.drop k).drop (pieceN (s.toList.drop k))) line (acc ++ [tokAt ((s.toList.drop k).take (pieceN (s.toList.drop k))) line]) else .no line 20 by
                have := HD.out
                rw [this] at hdash ⊢
                exact lexL_tok n10.out n32.out hdash)
              have hnd := mt (two_dashes s.toList k (by rw [HLEN.out]; exact hlt)).2 hdash
              rw [HLEN.out] at hnd
              clear hdash
              have n10' := n10
              have n32' := n32
              clear n10 n32
              by_cases hk2 : k + 1 < s.size
              · have hgd2 := getD_data s (k + 1) hk2
                by_cases e45 : ((s[k]'hlt).toNat : Int) = 45
                · have e45' : ¬ ((s[k + 1]'hk2).toNat : Int) = 45 := fun e => hnd ⟨hk2, by rw [HGD.out]; exact UInt8.toNat_inj.1 (by have : (45 : UInt8).toNat = 45 := rfl; omega), by rw [hgd2]; exact UInt8.toNat_inj.1 (by have : (45 : UInt8).toNat = 45 := rfl; omega)⟩
                  have b45 : (((s[k]'hlt).toNat : Int) == 45) = true := beq_iff_eq.2 e45
                  have b45' : (((s[k + 1]'hk2).toNat : Int) == 45) = false := beq_eq_false_iff_ne.2 e45'
                  have hki : (k : Int) + 1 < s.size := by omega
                  clear e45 e45' hnd hgd2
                  clear n10' n32'
                  obtain ⟨m, hm⟩ : ∃ m, oneN (s.toList.drop k) = m := ⟨_, rfl⟩
                  have HM := Lib.hid hm
                  have hrs : (s.extract k s.size).size ≤ 9223372036854775807 := by rw [← length_toList, HRL.out, List.length_drop, HLEN.out]; omega
                  have hr1 : 1 ≤ (s.extract k s.size).size := by rw [← length_toList, HRL.out, List.length_drop, HLEN.out]; omega
                  have HRS := Lib.hid hrs
                  have HR1' := Lib.hid hr1
                  clear hm hrs hr1
                  by_cases hm0 : m = 0
                  · have hmb : ((m : Int) == 0) = true := by rw [hm0]; rfl
                    have hno : r = .no line 20 := by rw [← HX.out, HTK.out, one_bad (HM.out.trans hm0)]; rfl
                    have HNO := Lib.hid hno
                    clear hno hm0
                    go_wp2_with (go_at_call 53; refine (rone_any _ _ HR1'.out HRS.out).mono ?_; rintro e w1 ⟨⟨xk, xl, xt, xn⟩, m', rfl, hm', _, hb⟩; rw [HRL.out, HM.out] at hm'; replace hm' := hm'.symm; subst hm'; have HB1 := Lib.hid (after HB.out hb); clear hb; dsimp only)
                    go_returns
                    exact ⟨none, 0, by rw [HNO.out]; rfl, by rw [HNO.out]; exact World.ownsRow_nil _ _ _ _, by have := HB1.out; exact this.alloc this.size _⟩
                  · have hmb : ((m : Int) == 0) = false := beq_eq_false_iff_ne.2 (by omega)
                    obtain ⟨g1, g2⟩ := one_good (by rw [HM.out]; exact hm0)
                    rw [HM.out] at g2
                    have hml : m ≤ s.size - k := by
                      have := pieceN_le (s.toList.drop k) (by rw [HD.out]; simp)
                      rw [← g2, List.length_drop, HLEN.out] at this
                      exact this
                    have hm1 : 1 ≤ m := by omega
                    by_cases h8 : acc.length = 8192
                    · have h8b : ((acc.length : Int) == 8192) = true := by rw [h8]; rfl
                      have hno : r = .no line 3 := by rw [← HX.out, HTK.out, g1, if_pos rfl, if_pos h8]
                      have HNO := Lib.hid hno
                      clear hno h8 g1 g2 hm0
                      go_wp2_with (go_at_call 53; refine (rone_any _ _ HR1'.out HRS.out).mono ?_; rintro e w1 ⟨⟨xk, xl, xt, xn⟩, m', rfl, hm', _, hb⟩; rw [HRL.out, HM.out] at hm'; replace hm' := hm'.symm; subst hm'; have HB1 := Lib.hid (after HB.out hb); clear hb; dsimp only)
                      go_returns
                      exact ⟨none, 0, by rw [HNO.out]; rfl, by rw [HNO.out]; exact World.ownsRow_nil _ _ _ _, by have := HB1.out; exact this.alloc this.size _⟩
                    · have h8b : ((acc.length : Int) == 8192) = false := beq_eq_false_iff_ne.2 (by omega)
                      have H8 := Lib.hid h8
                      have HX2 := Lib.hid (show lexL (s.toList.drop (k + m)) line (acc ++ [tokAt ((s.toList.drop k).take m) line]) = r by
                        rw [← HX.out, HTK.out, g1, if_pos rfl, if_neg h8, ← g2, List.drop_drop])
                      obtain ⟨i0, hi, hz0, hz1, hz2⟩ := info_parts infoTok
                      clear h8 g1 g2
                      have HM0 := Lib.hid hm0
                      clear hm0
                      go_wp2_with (first
                        | (go_at_call 53; refine (rone_any _ _ HR1'.out HRS.out).mono ?_; rintro e w1 ⟨⟨xk, xl, xt, xn⟩, m', rfl, hm', hxx, hb⟩; rw [HRL.out, HM.out] at hm'; replace hm' := hm'.symm; subst hm'; have HXX := Lib.hid (hxx HM0.out); have RW1 := Lib.hid ((row_below HW.out hb).alloc (.cells #[.int .u8 xk, .int .i64 line, .string xt, .int .i64 xn] 27)); have HB1 := Lib.hid (after HB.out hb); have hws := HB1.out.size; clear hb hxx; dsimp only)
                        | (at_builtin; refine wpList_append_own _ rfl _ _ 24 rfl w.heap.size 27 i0 _ 4 40 Tryd.underlying24 hi hz0 hz1 hz2 rfl (by decide) _ _ _ rfl (RW1.out.alloc _) ⟨w1.heap.size + 1, 0, none⟩ 1 1 [.int .u8 xk, .int .i64 line, .string xt, .int .i64 xn] rfl rfl (cells_new _ _ _ _ (by simp)) (by simp [Value.oneCell']) (by unfold maxLen; omega) (by omega) (by simp; omega) ?_; intro v' w2 hown' hgrow _; obtain ⟨g', cap', rfl⟩ := ownsRow_succ hown'; have HO := Lib.hid hown'; have HBA := Lib.hid (below_append ((HB1.out.alloc HB1.out.size _).alloc (by simp; omega) _) (by simp; omega) (RW1.out.alloc _) hgrow); clear hown' hgrow))
                      go_roundw
                      case rel =>
                        refine ⟨k + m, line, acc ++ [tokAt ((s.toList.drop k).take m) line], some ⟨g', 0, none⟩, cap', by omega, by omega, by go_num, rfl, by simp, by simp; have := H8.out; omega, HX2.out, ?_, HBA.out⟩
                        have e1 : (acc ++ [tokAt ((s.toList.drop k).take m) line]).length = acc.length + 1 := by simp
                        have e2 : tokCells (acc ++ [tokAt ((s.toList.drop k).take m) line]) = tokCells acc ++ [.int .u8 xk, .int .i64 line, .string xt, .int .i64 xn] := by
                          have hx := HXX.out
                          rw [HRL.out] at hx
                          rw [tokCells_append, show tokAt ((s.toList.drop k).take m) line = { tokAt ((s.toList.drop k).take m) 0 with l := line } from rfl, ← hx]
                          rfl
                        rw [e1, e2]; exact HO.out
                      case measure => simp [intOf]; omega
                · have b45 : (((s[k]'hlt).toNat : Int) == 45) = false := beq_eq_false_iff_ne.2 e45
                  have hki : (k : Int) + 1 < s.size := by omega
                  clear e45 hnd hgd2
                  clear n10' n32'
                  obtain ⟨m, hm⟩ : ∃ m, oneN (s.toList.drop k) = m := ⟨_, rfl⟩
                  have HM := Lib.hid hm
                  have hrs : (s.extract k s.size).size ≤ 9223372036854775807 := by rw [← length_toList, HRL.out, List.length_drop, HLEN.out]; omega
                  have hr1 : 1 ≤ (s.extract k s.size).size := by rw [← length_toList, HRL.out, List.length_drop, HLEN.out]; omega
                  have HRS := Lib.hid hrs
                  have HR1' := Lib.hid hr1
                  clear hm hrs hr1
                  by_cases hm0 : m = 0
                  · have hmb : ((m : Int) == 0) = true := by rw [hm0]; rfl
                    have hno : r = .no line 20 := by rw [← HX.out, HTK.out, one_bad (HM.out.trans hm0)]; rfl
                    have HNO := Lib.hid hno
                    clear hno hm0
                    go_wp2_with (go_at_call 53; refine (rone_any _ _ HR1'.out HRS.out).mono ?_; rintro e w1 ⟨⟨xk, xl, xt, xn⟩, m', rfl, hm', _, hb⟩; rw [HRL.out, HM.out] at hm'; replace hm' := hm'.symm; subst hm'; have HB1 := Lib.hid (after HB.out hb); clear hb; dsimp only)
                    go_returns
                    exact ⟨none, 0, by rw [HNO.out]; rfl, by rw [HNO.out]; exact World.ownsRow_nil _ _ _ _, by have := HB1.out; exact this.alloc this.size _⟩
                  · have hmb : ((m : Int) == 0) = false := beq_eq_false_iff_ne.2 (by omega)
                    obtain ⟨g1, g2⟩ := one_good (by rw [HM.out]; exact hm0)
                    rw [HM.out] at g2
                    have hml : m ≤ s.size - k := by
                      have := pieceN_le (s.toList.drop k) (by rw [HD.out]; simp)
                      rw [← g2, List.length_drop, HLEN.out] at this
                      exact this
                    have hm1 : 1 ≤ m := by omega
                    by_cases h8 : acc.length = 8192
                    · have h8b : ((acc.length : Int) == 8192) = true := by rw [h8]; rfl
                      have hno : r = .no line 3 := by rw [← HX.out, HTK.out, g1, if_pos rfl, if_pos h8]
                      have HNO := Lib.hid hno
                      clear hno h8 g1 g2 hm0
                      go_wp2_with (go_at_call 53; refine (rone_any _ _ HR1'.out HRS.out).mono ?_; rintro e w1 ⟨⟨xk, xl, xt, xn⟩, m', rfl, hm', _, hb⟩; rw [HRL.out, HM.out] at hm'; replace hm' := hm'.symm; subst hm'; have HB1 := Lib.hid (after HB.out hb); clear hb; dsimp only)
                      go_returns
                      exact ⟨none, 0, by rw [HNO.out]; rfl, by rw [HNO.out]; exact World.ownsRow_nil _ _ _ _, by have := HB1.out; exact this.alloc this.size _⟩
                    · have h8b : ((acc.length : Int) == 8192) = false := beq_eq_false_iff_ne.2 (by omega)
                      have H8 := Lib.hid h8
                      have HX2 := Lib.hid (show lexL (s.toList.drop (k + m)) line (acc ++ [tokAt ((s.toList.drop k).take m) line]) = r by
                        rw [← HX.out, HTK.out, g1, if_pos rfl, if_neg h8, ← g2, List.drop_drop])
                      obtain ⟨i0, hi, hz0, hz1, hz2⟩ := info_parts infoTok
                      clear h8 g1 g2
                      have HM0 := Lib.hid hm0
                      clear hm0
                      go_wp2_with (first
                        | (go_at_call 53; refine (rone_any _ _ HR1'.out HRS.out).mono ?_; rintro e w1 ⟨⟨xk, xl, xt, xn⟩, m', rfl, hm', hxx, hb⟩; rw [HRL.out, HM.out] at hm'; replace hm' := hm'.symm; subst hm'; have HXX := Lib.hid (hxx HM0.out); have RW1 := Lib.hid ((row_below HW.out hb).alloc (.cells #[.int .u8 xk, .int .i64 line, .string xt, .int .i64 xn] 27)); have HB1 := Lib.hid (after HB.out hb); have hws := HB1.out.size; clear hb hxx; dsimp only)
                        | (at_builtin; refine wpList_append_own _ rfl _ _ 24 rfl w.heap.size 27 i0 _ 4 40 Tryd.underlying24 hi hz0 hz1 hz2 rfl (by decide) _ _ _ rfl (RW1.out.alloc _) ⟨w1.heap.size + 1, 0, none⟩ 1 1 [.int .u8 xk, .int .i64 line, .string xt, .int .i64 xn] rfl rfl (cells_new _ _ _ _ (by simp)) (by simp [Value.oneCell']) (by unfold maxLen; omega) (by omega) (by simp; omega) ?_; intro v' w2 hown' hgrow _; obtain ⟨g', cap', rfl⟩ := ownsRow_succ hown'; have HO := Lib.hid hown'; have HBA := Lib.hid (below_append ((HB1.out.alloc HB1.out.size _).alloc (by simp; omega) _) (by simp; omega) (RW1.out.alloc _) hgrow); clear hown' hgrow))
                      go_roundw
                      case rel =>
                        refine ⟨k + m, line, acc ++ [tokAt ((s.toList.drop k).take m) line], some ⟨g', 0, none⟩, cap', by omega, by omega, by go_num, rfl, by simp, by simp; have := H8.out; omega, HX2.out, ?_, HBA.out⟩
                        have e1 : (acc ++ [tokAt ((s.toList.drop k).take m) line]).length = acc.length + 1 := by simp
                        have e2 : tokCells (acc ++ [tokAt ((s.toList.drop k).take m) line]) = tokCells acc ++ [.int .u8 xk, .int .i64 line, .string xt, .int .i64 xn] := by
                          have hx := HXX.out
                          rw [HRL.out] at hx
                          rw [tokCells_append, show tokAt ((s.toList.drop k).take m) line = { tokAt ((s.toList.drop k).take m) 0 with l := line } from rfl, ← hx]
                          rfl
                        rw [e1, e2]; exact HO.out
                      case measure => simp [intOf]; omega
              · have hki : (s.size : Int) ≤ (k : Int) + 1 := by omega
                clear hnd
                clear n10' n32'
                obtain ⟨m, hm⟩ : ∃ m, oneN (s.toList.drop k) = m := ⟨_, rfl⟩
                have HM := Lib.hid hm
                have hrs : (s.extract k s.size).size ≤ 9223372036854775807 := by rw [← length_toList, HRL.out, List.length_drop, HLEN.out]; omega
                have hr1 : 1 ≤ (s.extract k s.size).size := by rw [← length_toList, HRL.out, List.length_drop, HLEN.out]; omega
                have HRS := Lib.hid hrs
                have HR1' := Lib.hid hr1
                clear hm hrs hr1
                by_cases hm0 : m = 0
                · have hmb : ((m : Int) == 0) = true := by rw [hm0]; rfl
                  have hno : r = .no line 20 := by rw [← HX.out, HTK.out, one_bad (HM.out.trans hm0)]; rfl
                  have HNO := Lib.hid hno
                  clear hno hm0
                  go_wp2_with (go_at_call 53; refine (rone_any _ _ HR1'.out HRS.out).mono ?_; rintro e w1 ⟨⟨xk, xl, xt, xn⟩, m', rfl, hm', _, hb⟩; rw [HRL.out, HM.out] at hm'; replace hm' := hm'.symm; subst hm'; have HB1 := Lib.hid (after HB.out hb); clear hb; dsimp only)
                  go_returns
                  exact ⟨none, 0, by rw [HNO.out]; rfl, by rw [HNO.out]; exact World.ownsRow_nil _ _ _ _, by have := HB1.out; exact this.alloc this.size _⟩
                · have hmb : ((m : Int) == 0) = false := beq_eq_false_iff_ne.2 (by omega)
                  obtain ⟨g1, g2⟩ := one_good (by rw [HM.out]; exact hm0)
                  rw [HM.out] at g2
                  have hml : m ≤ s.size - k := by
                    have := pieceN_le (s.toList.drop k) (by rw [HD.out]; simp)
                    rw [← g2, List.length_drop, HLEN.out] at this
                    exact this
                  have hm1 : 1 ≤ m := by omega
                  by_cases h8 : acc.length = 8192
                  · have h8b : ((acc.length : Int) == 8192) = true := by rw [h8]; rfl
                    have hno : r = .no line 3 := by rw [← HX.out, HTK.out, g1, if_pos rfl, if_pos h8]
                    have HNO := Lib.hid hno
                    clear hno h8 g1 g2 hm0
                    go_wp2_with (go_at_call 53; refine (rone_any _ _ HR1'.out HRS.out).mono ?_; rintro e w1 ⟨⟨xk, xl, xt, xn⟩, m', rfl, hm', _, hb⟩; rw [HRL.out, HM.out] at hm'; replace hm' := hm'.symm; subst hm'; have HB1 := Lib.hid (after HB.out hb); clear hb; dsimp only)
                    go_returns
                    exact ⟨none, 0, by rw [HNO.out]; rfl, by rw [HNO.out]; exact World.ownsRow_nil _ _ _ _, by have := HB1.out; exact this.alloc this.size _⟩
                  · have h8b : ((acc.length : Int) == 8192) = false := beq_eq_false_iff_ne.2 (by omega)
                    have H8 := Lib.hid h8
                    have HX2 := Lib.hid (show lexL (s.toList.drop (k + m)) line (acc ++ [tokAt ((s.toList.drop k).take m) line]) = r by
                      rw [← HX.out, HTK.out, g1, if_pos rfl, if_neg h8, ← g2, List.drop_drop])
                    obtain ⟨i0, hi, hz0, hz1, hz2⟩ := info_parts infoTok
                    clear h8 g1 g2
                    have HM0 := Lib.hid hm0
                    clear hm0
                    go_wp2_with (first
                      | (go_at_call 53; refine (rone_any _ _ HR1'.out HRS.out).mono ?_; rintro e w1 ⟨⟨xk, xl, xt, xn⟩, m', rfl, hm', hxx, hb⟩; rw [HRL.out, HM.out] at hm'; replace hm' := hm'.symm; subst hm'; have HXX := Lib.hid (hxx HM0.out); have RW1 := Lib.hid ((row_below HW.out hb).alloc (.cells #[.int .u8 xk, .int .i64 line, .string xt, .int .i64 xn] 27)); have HB1 := Lib.hid (after HB.out hb); have hws := HB1.out.size; clear hb hxx; dsimp only)
                      | (at_builtin; refine wpList_append_own _ rfl _ _ 24 rfl w.heap.size 27 i0 _ 4 40 Tryd.underlying24 hi hz0 hz1 hz2 rfl (by decide) _ _ _ rfl (RW1.out.alloc _) ⟨w1.heap.size + 1, 0, none⟩ 1 1 [.int .u8 xk, .int .i64 line, .string xt, .int .i64 xn] rfl rfl (cells_new _ _ _ _ (by simp)) (by simp [Value.oneCell']) (by unfold maxLen; omega) (by omega) (by simp; omega) ?_; intro v' w2 hown' hgrow _; obtain ⟨g', cap', rfl⟩ := ownsRow_succ hown'; have HO := Lib.hid hown'; have HBA := Lib.hid (below_append ((HB1.out.alloc HB1.out.size _).alloc (by simp; omega) _) (by simp; omega) (RW1.out.alloc _) hgrow); clear hown' hgrow))
                    go_roundw
                    case rel =>
                      refine ⟨k + m, line, acc ++ [tokAt ((s.toList.drop k).take m) line], some ⟨g', 0, none⟩, cap', by omega, by omega, by go_num, rfl, by simp, by simp; have := H8.out; omega, HX2.out, ?_, HBA.out⟩
                      have e1 : (acc ++ [tokAt ((s.toList.drop k).take m) line]).length = acc.length + 1 := by simp
                      have e2 : tokCells (acc ++ [tokAt ((s.toList.drop k).take m) line]) = tokCells acc ++ [.int .u8 xk, .int .i64 line, .string xt, .int .i64 xn] := by
                        have hx := HXX.out
                        rw [HRL.out] at hx
                        rw [tokCells_append, show tokAt ((s.toList.drop k).take m) line = { tokAt ((s.toList.drop k).take m) 0 with l := line } from rfl, ← hx]
                        rfl
                      rw [e1, e2]; exact HO.out
                    case measure => simp [intOf]; omega
      · obtain rfl : k = s.size := by omega
        have hok : r = .ok acc := by
          rw [← HX.out, List.drop_eq_nil_of_le (by rw [HLEN.out]; exact Nat.le_refl _)]; rfl
        have HOK := Lib.hid hok
        clear hok
        go_wp2
        go_returns
        exact ⟨p, cap, by rw [HOK.out]; rfl, by rw [HOK.out]; exact HW.out, HB.out⟩

end Go.Proofs.YtalbcgbfefgjfaaDoor
