
/-
  THE REFERENCE's One: its walk.
-/
import Derived.Test.YtalbcgbfefgjfaaDoorLexN1
namespace Go.Proofs.YtalbcgbfefgjfaaDoor
open Go Go.RowKit

def OneRes (w : World) (l : List UInt8) (e : Ending) (w' : World) : Prop :=
  ∃ (x : TokR) (m : Nat), e = .returned (.tuple #[.agg #[.int .u8 x.k, .int .i64 x.l, .string x.t, .int .i64 x.n], .int .i64 m]) ∧ m = oneN l ∧ (m ≠ 0 → x = tokAt (l.take m) 0) ∧ Below w.heap.size w w'
theorem front_str (s : ByteArray) (n : Nat) : s.extract 0 n = str (s.toList.take n) := ba_ext (by rw [toList_front, str_toList])

theorem box_tok (w : World) : Var4 w (w.alloc (.cells #[.int .u8 0, .int .i64 0, .string ⟨#[]⟩, .int .i64 0] 27)) w.heap.size (.int .u8 0) (.int .i64 0) (.string ⟨#[]⟩) (.int .i64 0) := Var4.made (Nat.le_refl _) _ _ _ _

set_option maxRecDepth 100000 in
set_option maxHeartbeats 4000000 in
theorem rone_any (s : ByteArray) (w : World) (h1 : 1 ≤ s.size) (hs : s.size ≤ 9223372036854775807) : Calls Tryd.prog 53 #[.string s] w (OneRes w s.toList) := by
  have hgd := getD_data s 0 h1
  have hlen : s.toList.length = s.size := length_toList s
  obtain ⟨c, r, hl⟩ : ∃ c r, s.toList = c :: r := by
    cases h : s.toList with
    | nil => rw [h] at hlen; simp at hlen; omega
    | cons c r => exact ⟨c, r, rfl⟩
  have hc0 : s[0]'h1 = c := by rw [← hgd, hl]; rfl
  have hwl := wordN_le s.toList
  rw [hlen] at hwl
  obtain ⟨n, hn⟩ : ∃ n, wordN s.toList = n := ⟨_, rfl⟩
  rw [hn] at hwl
  have HZ := Lib.hid hs
  have HN := Lib.hid hn
  have HLL := Lib.hid hl
  have HC0 := Lib.hid hc0
  have HF := Lib.hid (front_str s n)
  have V0 := Lib.hid (box_tok w)
  have hex : (s.extract 0 n).size ≤ 9223372036854775807 := by rw [← length_toList, toList_front, List.length_take]; omega
  have HEX := Lib.hid hex
  clear hgd hlen hs hn hl hex
  cases h2 : letterB ((s[0]'h1).toNat : Int)
  · cases h3 : digitB ((s[0]'h1).toNat : Int)
    · -- a symbol
      obtain ⟨o1, o2⟩ := one_symbol HLL.out (by rw [← hc0]; exact h2) (by rw [← hc0]; exact h3)
      obtain ⟨m, hm⟩ : ∃ m, symN s.toList = m := ⟨_, rfl⟩
      have hmle : m ≤ s.size := by
        have := symN_eq s.toList
        rw [hm, length_toList] at this
        split at this
        · omega
        · split at this <;> omega
      have O1 := Lib.hid o1
      have O2 := Lib.hid o2
      have HM := Lib.hid hm
      have HFM := Lib.hid (front_str s m)
      clear o1 o2 hm hc0
      go_enter Tryd.func53, Tryd.ntmps53
      go_wp2_with (first
        | (go_at_call 76; refine (rword_any _ _ HZ.out).mono ?_; rw [HN.out]; rintro e w1 ⟨rfl, rfl⟩)
        | (go_at_call 44; refine (rletter_any _ _).mono ?_; rw [h2]; rintro e w1 ⟨rfl, rfl⟩)
        | (go_at_call 71; refine (rdigit_any _ _).mono ?_; rw [h3]; rintro e w1 ⟨rfl, rfl⟩)
        | (go_at_call 78; refine (rsymbolN_any _ _ HZ.out).mono ?_; rw [HM.out]; rintro e w1 ⟨rfl, hb⟩; have V1 := Lib.hid (V0.out.below hb); have B1 : Hid (Below w.heap.size w w1) := after (by (repeat' (first | (with_reducible exact Below.refl _ _) | (with_reducible assumption) | (with_reducible refine boxed ?_ _) | (with_reducible refine Below.drew ?_) | (with_reducible refine after ?_ (by assumption))))) hb; obtain ⟨_, _, k0, k1, k2, k3, f0, f1, f2, f3⟩ := V1.out; clear hb))
      refine bodyPost_ret (v := .tuple #[.agg #[.int .u8 4, .int .i64 0, .string (s.extract 0 m), .int .i64 0], .int .i64 m]) (by simp [results, Tryd.results53, go_sem, *]) rfl ?_
      exact ⟨⟨4, 0, s.extract 0 m, 0⟩, m, rfl, by rw [O1.out, HM.out], fun hm => by rw [← HM.out] at hm ⊢; rw [O2.out hm, HM.out, HFM.out], below4 B1.out (Nat.le_refl _) _ _ _ _⟩
    · -- an integer
      obtain ⟨o1, o2⟩ := one_digit HLL.out (by rw [← hc0]; exact h2) (by rw [← hc0]; exact h3)
      rw [HN.out] at o1 o2
      cases h4 : litB (s.toList.take n)
      · have O2 := Lib.hid (o2 h4)
        have h4' : litB (s.extract 0 n).toList = false := by rw [toList_front]; exact h4
        have H4 := Lib.hid h4'
        clear o1 o2 h4 h4' hc0
        go_enter Tryd.func53, Tryd.ntmps53
        go_wp2_with (first
          | (go_at_call 76; refine (rword_any _ _ HZ.out).mono ?_; rw [HN.out]; rintro e w1 ⟨rfl, rfl⟩)
          | (go_at_call 44; refine (rletter_any _ _).mono ?_; rw [h2]; rintro e w1 ⟨rfl, rfl⟩)
          | (go_at_call 71; refine (rdigit_any _ _).mono ?_; rw [h3]; rintro e w1 ⟨rfl, rfl⟩)
          | (go_at_call 77; refine (rinteger_any _ _).mono ?_; rw [H4.out]; rintro e w1 ⟨rfl, rfl⟩))
        refine bodyPost_ret (v := .tuple #[.agg #[.int .u8 0, .int .i64 0, .string ⟨#[]⟩, .int .i64 0], .int .i64 0]) (by simp [results, Tryd.results53, go_sem, *]) rfl ?_
        exact ⟨⟨0, 0, ⟨#[]⟩, 0⟩, 0, rfl, by rw [O2.out], fun h => absurd rfl h, by (repeat' (first | (with_reducible exact Below.refl _ _) | (with_reducible assumption) | (with_reducible refine boxed ?_ _) | (with_reducible refine Below.drew ?_) | (with_reducible refine after ?_ (by assumption))))⟩
      · obtain ⟨o3, o4⟩ := o1 h4
        have h4' : litB (s.extract 0 n).toList = true := by rw [toList_front]; exact h4
        have hd0 : 0 ≤ decN (s.extract 0 n).toList := by
          rw [toList_front]
          have := decN_bound (s.toList.take n) (s.toList.take n).length (Nat.le_refl _) (fun i hi => by
            unfold litB at h4
            simp only [Bool.and_eq_true, decide_eq_true_eq] at h4
            exact all_getD.1 h4.2.1 i hi)
          rw [List.take_length] at this
          exact this.1
        obtain ⟨v, hv⟩ : ∃ v, decN (s.extract 0 n).toList = v := ⟨_, rfl⟩
        rw [hv] at hd0
        have HV := Lib.hid hv
        have H4 := Lib.hid h4'
        have O3 := Lib.hid o3
        have O4 := Lib.hid o4
        clear o1 o2 h4 h4' hc0 hv o3 o4
        go_enter Tryd.func53, Tryd.ntmps53
        go_wp2_with (first
          | (go_at_call 76; refine (rword_any _ _ HZ.out).mono ?_; rw [HN.out]; rintro e w1 ⟨rfl, rfl⟩)
          | (go_at_call 44; refine (rletter_any _ _).mono ?_; rw [h2]; rintro e w1 ⟨rfl, rfl⟩)
          | (go_at_call 71; refine (rdigit_any _ _).mono ?_; rw [h3]; rintro e w1 ⟨rfl, rfl⟩)
          | (go_at_call 77; refine (rinteger_any _ _).mono ?_; rw [H4.out, if_pos rfl, HV.out]; rintro e w1 ⟨rfl, rfl⟩))
        refine bodyPost_ret (v := .tuple #[.agg #[.int .u8 3, .int .i64 0, .string ⟨#[]⟩, .int .i64 v], .int .i64 n]) (by simp [results, Tryd.results53, go_sem, *]) rfl ?_
        exact ⟨⟨3, 0, ⟨#[]⟩, v⟩, n, rfl, by rw [O3.out], fun _ => by rw [O4.out, ← HV.out, toList_front], by (repeat' (first | (with_reducible exact Below.refl _ _) | (with_reducible assumption) | (with_reducible refine boxed ?_ _) | (with_reducible refine Below.drew ?_) | (with_reducible refine after ?_ (by assumption))))⟩
  · -- a word
    have hkk : keyB (s.extract 0 n) = keyL.contains (s.toList.take n) := by unfold keyB; rw [toList_front]
    have hnn : nameB (s.extract 0 n).toList = nameB (s.toList.take n) := by rw [toList_front]
    cases h4 : keyL.contains (s.toList.take n)
    · rw [h4] at hkk
      cases h5 : nameB (s.toList.take n)
      · rw [h5] at hnn
        have O1 := Lib.hid (one_word_no HLL.out (by rw [← hc0]; exact h2) (by rw [HN.out]; exact h4) (by rw [HN.out]; exact h5))
        have HK := Lib.hid hkk
        have HNN := Lib.hid hnn
        clear hkk hnn h4 h5 hc0
        go_enter Tryd.func53, Tryd.ntmps53
        go_wp2_with (first
          | (go_at_call 76; refine (rword_any _ _ HZ.out).mono ?_; rw [HN.out]; rintro e w1 ⟨rfl, rfl⟩)
          | (go_at_call 44; refine (rletter_any _ _).mono ?_; rw [h2]; rintro e w1 ⟨rfl, rfl⟩)
          | (go_at_call 16; refine (rkey_any _ _).mono ?_; rw [HK.out]; rintro e w1 ⟨rfl, hb⟩; have V1 := Lib.hid (V0.out.below hb); have B1 : Hid (Below w.heap.size w w1) := after (by (repeat' (first | (with_reducible exact Below.refl _ _) | (with_reducible assumption) | (with_reducible refine boxed ?_ _) | (with_reducible refine Below.drew ?_) | (with_reducible refine after ?_ (by assumption))))) hb; clear hb)
          | (go_at_call 14; refine (rname_any _ _ HEX.out).mono ?_; rw [HNN.out]; rintro e w2 ⟨rfl, hb⟩; have V2 := Lib.hid (V1.out.below hb); have B2 : Hid (Below w.heap.size w w2) := after B1.out hb; obtain ⟨_, _, k0, k1, k2, k3, f0, f1, f2, f3⟩ := V2.out; clear hb))
        refine bodyPost_ret (v := .tuple #[.agg #[.int .u8 0, .int .i64 0, .string ⟨#[]⟩, .int .i64 0], .int .i64 0]) (by simp [results, Tryd.results53, go_sem, *]) rfl ?_
        exact ⟨⟨0, 0, ⟨#[]⟩, 0⟩, 0, rfl, by rw [O1.out], fun h => absurd rfl h, below4 B2.out (Nat.le_refl _) _ _ _ _⟩
      · rw [h5] at hnn
        obtain ⟨o1, o2⟩ := one_name HLL.out (by rw [← hc0]; exact h2) (by rw [HN.out]; exact h5)
        have O1 := Lib.hid o1
        have O2 := Lib.hid o2
        have HK := Lib.hid hkk
        have HNN := Lib.hid hnn
        clear hkk hnn h4 h5 o1 o2 hc0
        go_enter Tryd.func53, Tryd.ntmps53
        go_wp2_with (first
          | (go_at_call 76; refine (rword_any _ _ HZ.out).mono ?_; rw [HN.out]; rintro e w1 ⟨rfl, rfl⟩)
          | (go_at_call 44; refine (rletter_any _ _).mono ?_; rw [h2]; rintro e w1 ⟨rfl, rfl⟩)
          | (go_at_call 16; refine (rkey_any _ _).mono ?_; rw [HK.out]; rintro e w1 ⟨rfl, hb⟩; have V1 := Lib.hid (V0.out.below hb); have B1 : Hid (Below w.heap.size w w1) := after (by (repeat' (first | (with_reducible exact Below.refl _ _) | (with_reducible assumption) | (with_reducible refine boxed ?_ _) | (with_reducible refine Below.drew ?_) | (with_reducible refine after ?_ (by assumption))))) hb; clear hb)
          | (go_at_call 14; refine (rname_any _ _ HEX.out).mono ?_; rw [HNN.out]; rintro e w2 ⟨rfl, hb⟩; have V2 := Lib.hid (V1.out.below hb); have B2 : Hid (Below w.heap.size w w2) := after B1.out hb; obtain ⟨_, _, k0, k1, k2, k3, f0, f1, f2, f3⟩ := V2.out; clear hb))
        refine bodyPost_ret (v := .tuple #[.agg #[.int .u8 1, .int .i64 0, .string (s.extract 0 n), .int .i64 0], .int .i64 n]) (by simp [results, Tryd.results53, go_sem, *]) rfl ?_
        exact ⟨⟨1, 0, s.extract 0 n, 0⟩, n, rfl, by rw [O1.out, HN.out], fun _ => by have := O2.out; rw [HN.out] at this; rw [this, HF.out], below4 B2.out (Nat.le_refl _) _ _ _ _⟩
    · rw [h4] at hkk
      obtain ⟨o1, o2⟩ := one_key HLL.out (by rw [← hc0]; exact h2) (by rw [HN.out]; exact h4)
      have O1 := Lib.hid o1
      have O2 := Lib.hid o2
      have HK := Lib.hid hkk
      clear hkk hnn h4 o1 o2 hc0
      go_enter Tryd.func53, Tryd.ntmps53
      go_wp2_with (first
        | (go_at_call 76; refine (rword_any _ _ HZ.out).mono ?_; rw [HN.out]; rintro e w1 ⟨rfl, rfl⟩)
        | (go_at_call 44; refine (rletter_any _ _).mono ?_; rw [h2]; rintro e w1 ⟨rfl, rfl⟩)
        | (go_at_call 16; refine (rkey_any _ _).mono ?_; rw [HK.out]; rintro e w1 ⟨rfl, hb⟩; have V1 := Lib.hid (V0.out.below hb); have B1 : Hid (Below w.heap.size w w1) := after (by (repeat' (first | (with_reducible exact Below.refl _ _) | (with_reducible assumption) | (with_reducible refine boxed ?_ _) | (with_reducible refine Below.drew ?_) | (with_reducible refine after ?_ (by assumption))))) hb; obtain ⟨_, _, k0, k1, k2, k3, f0, f1, f2, f3⟩ := V1.out; clear hb))
      refine bodyPost_ret (v := .tuple #[.agg #[.int .u8 2, .int .i64 0, .string (s.extract 0 n), .int .i64 0], .int .i64 n]) (by simp [results, Tryd.results53, go_sem, *]) rfl ?_
      exact ⟨⟨2, 0, s.extract 0 n, 0⟩, n, rfl, by rw [O1.out, HN.out], fun _ => by have := O2.out; rw [HN.out] at this; rw [this, HF.out], below4 B1.out (Nat.le_refl _) _ _ _ _⟩

end Go.Proofs.YtalbcgbfefgjfaaDoor
