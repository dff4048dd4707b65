
/-
  WORDS: lex.word, lex.Name; the bytes with which a string begins.
-/
import Derived.Test.YtalbcgbfefgjfaaDoorLexKk
import Derived.Lib.OthersKept
import Derived.Laws.RangeAny
import Derived.Laws.RangeString
namespace Go.Proofs.YtalbcgbfefgjfaaDoor
open Go Go.RowKit

def wordU (c : UInt8) : Bool := wordB c.toNat
/-- How many word bytes a list begins with. -/
def wordN (l : List UInt8) : Nat := (l.takeWhile wordU).length
def nameB (l : List UInt8) : Bool := decide (1 ≤ l.length ∧ l.length ≤ 32) && letterB (l.headD 0).toNat && decide (wordN l = l.length) && !keyL.contains l

theorem wordN_le (l : List UInt8) : wordN l ≤ l.length := by
  unfold wordN
  exact (List.takeWhile_prefix _).length_le
theorem wordN_eq : ∀ (l : List UInt8) (k : Nat), k ≤ l.length → (∀ i, i < k → wordU (l.getD i 0) = true) → (k = l.length ∨ wordU (l.getD k 0) = false) → wordN l = k
  | [], k, h, _, _ => by simp at h; subst h; rfl
  | c :: r, 0, _, _, h => by
    rcases h with h | h
    · simp at h
    · simp at h; simp [wordN, h]
  | c :: r, k + 1, hk, ha, h => by
    have h0 := ha 0 (by omega)
    simp at h0
    have := wordN_eq r k (by simpa using hk) (fun i hi => by have := ha (i + 1) (by omega); simpa using this) (by simpa using h)
    simp only [wordN, List.takeWhile_cons, h0, if_true, List.length_cons] at this ⊢
    rw [this]

theorem getD_data (s : ByteArray) (k : Nat) (h : k < s.size) : s.toList.getD k 0 = s[k]'h := by
  rw [ByteArray.toList_eq, List.getD_eq_getElem?_getD]
  have h' : k < s.data.toList.length := by simpa using h
  rw [List.getElem?_eq_getElem h']
  rfl
theorem length_toList (s : ByteArray) : s.toList.length = s.size := by rw [ByteArray.toList_eq]; simp

theorem word_high (c : Int) (h : 128 ≤ c) : letterB c = false ∧ digitB c = false ∧ (c == 95) = false :=
  ⟨decide_eq_false (by omega), decide_eq_false (by omega), beq_eq_false_iff_ne.2 (by omega)⟩

set_option maxHeartbeats 1000000 in
theorem word_any (s : ByteArray) (w : World) (_ : s.size ≤ 9223372036854775807) :
    Calls Tryd.prog 43 #[.string s] w (Gives w (.int .i64 (wordN s.toList))) := by
  go_enter Tryd.func43, Tryd.ntmps43
  go_wp2
  go_loopw [] (fun wr => ∃ pos : Nat, pos ≤ s.size ∧ wr.heap[w.heap.size]? = some (.stringIter s pos) ∧ Below w.heap.size w wr ∧ ∀ i, i < pos → wordU (s.toList.getD i 0) = true) (fun wr => s.size - wr.iterPos w.heap.size)
  case atStart =>
    refine ⟨0, Nat.zero_le _, ?_, (Below.refl _ w).alloc (Nat.le_refl _) _, fun i hi => by omega⟩
    have := World.iter_heap w s 0
    simpa using this
  case round =>
    obtain ⟨pos, hle, hit, hbw, hall⟩ := hrel
    have hsz : w.heap.size < wr.heap.size := (Array.getElem?_eq_some_iff.1 hit).1
    by_cases hp : pos < s.size
    · have hgd := getD_data s pos hp
      obtain ⟨c, k, hdec, hc⟩ : ∃ (c : Int) (k : Nat), ((Utf8.decode s pos).1 : Int) = c ∧ (Utf8.decode s pos).2 = k ∧ (wordB c = true → k = 1 ∧ wordU (s.toList.getD pos 0) = true) ∧ (wordB c = false → wordU (s.toList.getD pos 0) = false) := by
        by_cases ha : (s[pos]'hp).toNat < 128
        · refine ⟨_, _, rfl, rfl, ?_⟩
          rw [decode_ascii s pos hp ha, hgd]
          exact ⟨fun h => ⟨rfl, h⟩, fun h => h⟩
        · refine ⟨_, _, rfl, rfl, ?_⟩
          have hh := (decode_high s pos hp (by omega)).1
          rw [hgd]
          obtain ⟨g1, g2, g3⟩ := word_high ((Utf8.decode s pos).1 : Int) (by omega)
          obtain ⟨k1, k2, k3⟩ := word_high ((s[pos]'hp).toNat : Int) (by omega)
          exact ⟨fun h => by simp [wordB, g1, g2, g3] at h, fun _ => by simp [wordU, wordB, k1, k2, k3]⟩
      obtain ⟨hk, hyes, hno⟩ := hc
      have hnx : ∀ ty, (Instr.next (.pointer (some ⟨w.heap.size, 0, none⟩)) true ty).run Tryd.prog wr = .ok (.tuple #[.bool true, .int .i64 pos, .int .i32 c]) (wr.iterAt w.heap.size s (pos + k)) := fun ty => by rw [Lib.run_next_any_at wr w.heap.size s pos ty hit hp, hdec, hk]
      have hit2 := Lib.iterAt_heap wr w.heap.size s pos (pos + k) hit
      have hbw2 := Lib.below_iterAt hbw (k := w.heap.size) (Nat.le_refl _) s (pos + k)
      have HY := Lib.hid hyes
      have HN := Lib.hid hno
      have HA := Lib.hid hall
      have HI := Lib.hid hit
      have HI2 := Lib.hid hit2
      have HB2 := Lib.hid hbw2
      clear hyes hno hall hit hit2 hbw hbw2 hgd hdec hk
      by_cases hw : wordB c = true
      · obtain ⟨rfl, hu⟩ := HY.out hw
        have HU := Lib.hid hu
        clear hu
        cases h1 : letterB c
        all_goals cases h2 : digitB c
        all_goals cases h3 : (c == 95)
        all_goals first
          | (exfalso; simp [wordB, h1, h2, h3] at hw; done)
          | skip
        all_goals clear hw
        all_goals
          go_wp2_with (first | (go_at_call 42; refine (letter_any _ _).mono ?_; rintro e w1 ⟨rfl, rfl⟩; rw [h1]) | (go_at_call 70; refine (digit_any _ _).mono ?_; rintro e w1 ⟨rfl, rfl⟩; rw [h2]))
          go_roundw
          case rel =>
            exact ⟨pos + 1, by omega, HI2.out, HB2.out, fun i hi => by
              by_cases e : i = pos
              · rw [e]; exact HU.out
              · exact HA.out i (by omega)⟩
          case measure =>
            simp only [World.iterPos, HI2.out, HI.out]
            omega
      · have hw' : wordB c = false := by simpa using hw
        have HU := Lib.hid (HN.out hw')
        have h1 : letterB c = false := by simp [wordB] at hw'; exact hw'.1.1
        have h2 : digitB c = false := by simp [wordB] at hw'; exact hw'.1.2
        have h3 : (c == 95) = false := by simp only [wordB, Bool.or_eq_false_iff] at hw'; exact hw'.2
        clear hw hw'
        go_wp2_with (first | (go_at_call 42; refine (letter_any _ _).mono ?_; rintro e w1 ⟨rfl, rfl⟩; rw [h1]) | (go_at_call 70; refine (digit_any _ _).mono ?_; rintro e w1 ⟨rfl, rfl⟩; rw [h2]))
        go_returns
        exact ⟨by rw [wordN_eq s.toList pos (by rw [length_toList]; omega) HA.out (Or.inr HU.out)]; rfl, HB2.out⟩
    · have hnx : ∀ ty, (Instr.next (.pointer (some ⟨w.heap.size, 0, none⟩)) true ty).run Tryd.prog wr = .ok (.tuple #[.bool false]) wr := fun ty => Lib.run_next_end_at wr w.heap.size s pos ty hit hp
      obtain rfl : pos = s.size := by omega
      have HA := Lib.hid hall
      have HB := Lib.hid hbw
      clear hall hbw hit
      go_wp2
      go_returns
      exact ⟨by rw [wordN_eq s.toList s.size (by rw [length_toList]; omega) HA.out (Or.inl (length_toList s).symm)]; rfl, HB.out⟩

theorem byte32 (c : UInt8) : wrap32 (c.toNat : Int) = c.toNat := by
  have := c.toNat_lt
  unfold wrap32
  omega

/-- lex.Name. -/
theorem name_any (s : ByteArray) (w : World) (hs : s.size ≤ 9223372036854775807) : Calls Tryd.prog 13 #[.string s] w (Gives w (.bool (nameB s.toList))) := by
  have hlen := length_toList s
  by_cases h32 : 32 < s.size
  · have e : nameB s.toList = false := by unfold nameB; rw [decide_eq_false (by omega)]; simp
    rw [e]
    clear e hlen
    go_enter Tryd.func13, Tryd.ntmps13
    go_wp2
    go_returns
    exact ⟨rfl, by (repeat' (first | (with_reducible exact Below.refl _ _) | (with_reducible assumption) | (with_reducible refine boxed ?_ _) | (with_reducible refine Below.drew ?_) | (with_reducible refine after ?_ (by assumption))))⟩
  · by_cases h0 : s.size = 0
    · have e : nameB s.toList = false := by unfold nameB; rw [decide_eq_false (by omega)]; simp
      rw [e]
      have hnil : s.toList = [] := List.length_eq_zero_iff.1 (by omega)
      clear e hlen h0
      go_enter Tryd.func13, Tryd.ntmps13
      go_wp2
      go_returns
      exact ⟨rfl, by (repeat' (first | (with_reducible exact Below.refl _ _) | (with_reducible assumption) | (with_reducible refine boxed ?_ _) | (with_reducible refine Below.drew ?_) | (with_reducible refine after ?_ (by assumption))))⟩
    · have hpos : 0 < s.size := by omega
      have hne : (s.toList == []) = false := beq_eq_false_iff_ne.2 (fun e => by rw [e] at hlen; simp at hlen; omega)
      have hhd : (s.toList.headD 0).toNat = (s[0]'hpos).toNat := by
        rw [← getD_data s 0 hpos]
        cases s.toList <;> rfl
      have hb : ∀ b1 b2 b3 : Bool, letterB (s[0]'hpos).toNat = b1 → decide (wordN s.toList = s.toList.length) = b2 → keyB s = b3 → nameB s.toList = (b1 && b2 && !b3) := fun b1 b2 b3 e1 e2 e3 => by
        unfold nameB
        rw [decide_eq_true (by omega), hhd, e1, e2]
        unfold keyB at e3
        rw [e3]
        simp
      have HB := Lib.hid hb
      clear hb hhd
      have hw32 : wrap32 ((s[0]'hpos).toNat : Int) = (s[0]'hpos).toNat := byte32 _
      cases h1 : letterB (s[0]'hpos).toNat
      all_goals cases h2 : decide (wordN s.toList = s.toList.length)
      all_goals cases h3 : keyB s
      all_goals
        rw [HB.out _ _ _ h1 h2 h3]
        have h4 : ((wordN s.toList : Int) == (s.size : Int)) = decide (wordN s.toList = s.toList.length) := by
          rw [hlen, Bool.eq_iff_iff]
          simp
          omega
        rw [h2] at h4
        have HL := Lib.hid hlen
        clear hlen h2
        go_enter Tryd.func13, Tryd.ntmps13
        go_wp2_with (first
          | (go_at_call 42; refine (letter_any _ _).mono ?_; rintro e w1 ⟨rfl, rfl⟩; rw [h1])
          | (go_at_call 43; refine (word_any _ _ hs).mono ?_; rintro e w1 ⟨rfl, hb⟩)
          | (go_at_call 15; refine (key_any _ _).mono ?_; rintro e w1 ⟨rfl, rfl⟩; rw [h3]))
        go_returns
        exact ⟨rfl, by (repeat' (first | (with_reducible exact Below.refl _ _) | (with_reducible assumption) | (with_reducible refine boxed ?_ _) | (with_reducible refine Below.drew ?_) | (with_reducible refine after ?_ (by assumption))))⟩

end Go.Proofs.YtalbcgbfefgjfaaDoor
