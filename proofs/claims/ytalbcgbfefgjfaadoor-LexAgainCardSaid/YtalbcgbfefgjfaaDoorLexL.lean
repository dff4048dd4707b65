
/-
  INTEGERS, COMMENTS: lex.literal, lex.printable; the reference's integer.
-/
import Derived.Test.YtalbcgbfefgjfaaDoorLexS
namespace Go.Proofs.YtalbcgbfefgjfaaDoor
open Go Go.RowKit

def digitU (c : UInt8) : Bool := digitB c.toNat
/-- The value of digits. -/
def decN (l : List UInt8) : Int := l.foldl (fun n c => 10 * n + ((c.toNat : Int) - 48)) 0
def litB (l : List UInt8) : Bool := decide (l.length ≤ 10) && (l.all digitU && decide (decN l ≤ 2147483647))
def printU (c : UInt8) : Bool := decide (32 ≤ c.toNat ∧ c.toNat ≤ 126)

theorem take_next (l : List UInt8) (k : Nat) (h : k < l.length) : l.take (k + 1) = l.take k ++ [l.getD k 0] := by
  rw [List.take_succ_eq_append_getElem h]
  simp [List.getD_eq_getElem?_getD, h]
theorem decN_next (l : List UInt8) (k : Nat) (h : k < l.length) : decN (l.take (k + 1)) = 10 * decN (l.take k) + (((l.getD k 0).toNat : Int) - 48) := by
  rw [take_next l k h, decN, List.foldl_append]; rfl
theorem digitU_iff (c : UInt8) : digitU c = true ↔ 48 ≤ (c.toNat : Int) ∧ (c.toNat : Int) ≤ 57 := by
  unfold digitU digitB
  rw [decide_eq_true_iff]
theorem decN_bound (l : List UInt8) : ∀ k, k ≤ l.length → (∀ i, i < k → digitU (l.getD i 0) = true) → 0 ≤ decN (l.take k) ∧ decN (l.take k) < 10 ^ k := by
  intro k
  induction k with
  | zero => intro _ _; simp [decN]
  | succ k ih =>
    intro hk ha
    obtain ⟨i1, i2⟩ := ih (by omega) (fun i hi => ha i (by omega))
    have := (digitU_iff _).1 (ha k (by omega))
    rw [decN_next l k (by omega), Int.pow_succ]
    omega
theorem pow_le (k : Nat) (h : k ≤ 10) : (10 : Int) ^ k ≤ 10000000000 := by
  rcases (show k = 0 ∨ k = 1 ∨ k = 2 ∨ k = 3 ∨ k = 4 ∨ k = 5 ∨ k = 6 ∨ k = 7 ∨ k = 8 ∨ k = 9 ∨ k = 10 by omega) with rfl | rfl | rfl | rfl | rfl | rfl | rfl | rfl | rfl | rfl | rfl <;> decide
theorem all_getD {l : List UInt8} {p : UInt8 → Bool} : l.all p = true ↔ ∀ i, i < l.length → p (l.getD i 0) = true := by
  rw [List.all_eq_true]
  constructor
  · intro h i hi
    rw [List.getD_eq_getElem?_getD, List.getElem?_eq_getElem hi]
    exact h _ (List.getElem_mem _)
  · intro h x hx
    obtain ⟨i, hi, rfl⟩ := List.getElem_of_mem hx
    have := h i hi
    rw [List.getD_eq_getElem?_getD, List.getElem?_eq_getElem hi] at this
    exact this
theorem all_no {l : List UInt8} {p : UInt8 → Bool} {i : Nat} (hi : i < l.length) (h : p (l.getD i 0) = false) : l.all p = false := by
  cases ha : l.all p with
  | false => rfl
  | true => rw [all_getD.1 ha i hi] at h; cases h

/-- The rune at a place of a string is a byte, or 128 and more. -/
theorem rune_at (s : ByteArray) (pos : Nat) (hp : pos < s.size) : ∃ (c : Int) (k : Nat), ((Utf8.decode s pos).1 : Int) = c ∧ (Utf8.decode s pos).2 = k ∧ ((c = (s.toList.getD pos 0).toNat ∧ k = 1 ∧ c < 128) ∨ (128 ≤ c ∧ 128 ≤ (s.toList.getD pos 0).toNat)) := by
  have hgd := getD_data s pos hp
  rw [hgd]
  by_cases ha : (s[pos]'hp).toNat < 128
  · refine ⟨_, _, rfl, rfl, Or.inl ?_⟩
    rw [decode_ascii s pos hp ha]
    exact ⟨rfl, rfl, by show ((s[pos]'hp).toNat : Int) < 128; omega⟩
  · have hh := (decode_high s pos hp (by omega)).1
    exact ⟨_, _, rfl, rfl, Or.inr ⟨by omega, by omega⟩⟩

set_option maxHeartbeats 1000000 in
theorem printable_any (s : ByteArray) (w : World) (_ : s.size ≤ 9223372036854775807) : Calls Tryd.prog 73 #[.string s] w (Gives w (.bool (s.toList.all printU))) := by
  obtain ⟨pb, hpb⟩ : ∃ pb, s.toList.all printU = pb := ⟨_, rfl⟩
  rw [hpb]
  have HP := Lib.hid hpb
  clear hpb
  go_enter Tryd.func73, Tryd.ntmps73
  go_wp2
  go_loopw [] (fun wr => ∃ pos : Nat, pos ≤ s.size ∧ wr.heap[w.heap.size]? = some (.stringIter s pos) ∧ Below w.heap.size w wr ∧ ∀ i, i < pos → printU (s.toList.getD i 0) = true) (fun wr => s.size - wr.iterPos w.heap.size)
  case atStart =>
    refine ⟨0, Nat.zero_le _, ?_, (Below.refl _ w).alloc (Nat.le_refl _) _, fun i hi => by omega⟩
    have := World.iter_heap w s 0
    simpa using this
  case round =>
    obtain ⟨pos, hle, hit, hbw, hall⟩ := hrel
    have hsz : w.heap.size < wr.heap.size := (Array.getElem?_eq_some_iff.1 hit).1
    by_cases hp : pos < s.size
    · obtain ⟨c, k, hdec, hk, hc⟩ := rune_at s pos hp
      have hnx : ∀ ty, (Instr.next (.pointer (some ⟨w.heap.size, 0, none⟩)) true ty).run Tryd.prog wr = .ok (.tuple #[.bool true, .int .i64 pos, .int .i32 c]) (wr.iterAt w.heap.size s (pos + k)) := fun ty => by rw [Lib.run_next_any_at wr w.heap.size s pos ty hit hp, hdec, hk]
      have HI := Lib.hid hit
      have HI2 := Lib.hid (Lib.iterAt_heap wr w.heap.size s pos (pos + k) hit)
      have HB2 := Lib.hid (Lib.below_iterAt hbw (k := w.heap.size) (Nat.le_refl _) s (pos + k))
      have HA := Lib.hid hall
      have HC := Lib.hid hc
      clear hall hit hbw hdec hk hc
      by_cases hu : 32 ≤ c ∧ c ≤ 126
      · obtain ⟨u1, u2⟩ := hu
        obtain ⟨rfl, hpu⟩ : k = 1 ∧ printU (s.toList.getD pos 0) = true := by
          rcases HC.out with ⟨e, rfl, _⟩ | ⟨e, _⟩
          · exact ⟨rfl, decide_eq_true (by omega)⟩
          · omega
        have HU := Lib.hid hpu
        clear hpu
        go_wp2
        go_roundw
        case rel =>
          exact ⟨pos + 1, by omega, HI2.out, HB2.out, fun i hi => by
            by_cases e : i = pos
            · rw [e]; exact HU.out
            · exact HA.out i (by omega)⟩
        case measure =>
          simp only [World.iterPos, HI2.out, HI.out]
          omega
      · have hpu : printU (s.toList.getD pos 0) = false := by
          rcases HC.out with ⟨e, _, _⟩ | ⟨_, e⟩
          · exact decide_eq_false (by omega)
          · exact decide_eq_false (by omega)
        obtain rfl : pb = false := by rw [← HP.out]; exact all_no (by rw [length_toList]; exact hp) hpu
        clear hpu
        by_cases v1 : c < 32
        · go_wp2
          go_returns
          exact ⟨rfl, HB2.out⟩
        · have v2 : 126 < c := by omega
          clear hu
          go_wp2
          go_returns
          exact ⟨rfl, HB2.out⟩
    · have hnx : ∀ ty, (Instr.next (.pointer (some ⟨w.heap.size, 0, none⟩)) true ty).run Tryd.prog wr = .ok (.tuple #[.bool false]) wr := fun ty => Lib.run_next_end_at wr w.heap.size s pos ty hit hp
      obtain rfl : pos = s.size := by omega
      obtain rfl : pb = true := by rw [← HP.out]; exact all_getD.2 (fun i hi => hall i (by rw [length_toList] at hi; exact hi))
      have HB := Lib.hid hbw
      clear hall hbw hit
      go_wp2
      go_returns
      exact ⟨rfl, HB.out⟩

set_option maxHeartbeats 1000000 in
theorem literal_any (s : ByteArray) (w : World) : Calls Tryd.prog 93 #[.string s] w (Gives w (.tuple #[.int .i64 (if litB s.toList = true then decN s.toList else 0), .bool (litB s.toList)])) := by
  have hlen := length_toList s
  obtain ⟨lb, hlb⟩ : ∃ lb, litB s.toList = lb := ⟨_, rfl⟩
  rw [hlb]
  obtain ⟨vv, hvv⟩ : ∃ vv, (if lb = true then decN s.toList else 0) = vv := ⟨_, rfl⟩
  rw [hvv]
  have HL := Lib.hid hlb
  have HV := Lib.hid hvv
  clear hlb hvv
  by_cases h10 : 10 < s.size
  · obtain rfl : lb = false := by
      rw [← HL.out]; unfold litB; rw [decide_eq_false (by omega)]; rfl
    obtain rfl : vv = 0 := HV.out.symm
    clear hlen
    go_enter Tryd.func93, Tryd.ntmps93
    go_wp2
    go_returns
    exact ⟨rfl, by (repeat' (first | (with_reducible exact Below.refl _ _) | (with_reducible assumption) | (with_reducible refine boxed ?_ _) | (with_reducible refine Below.drew ?_) | (with_reducible refine after ?_ (by assumption))))⟩
  · have HLen := Lib.hid hlen
    have hle10 : s.size ≤ 10 := by omega
    clear hlen h10
    go_enter Tryd.func93, Tryd.ntmps93
    go_wp2
    go_loopw [4] (fun n wr => ∃ (pos : Nat) (z : Int), pos ≤ s.size ∧ n = .int .i64 z ∧ z = decN (s.toList.take pos) ∧ wr.heap[w.heap.size]? = some (.stringIter s pos) ∧ Below w.heap.size w wr ∧ ∀ i, i < pos → digitU (s.toList.getD i 0) = true) (fun _ wr => s.size - wr.iterPos w.heap.size)
    case atStart =>
      refine ⟨0, 0, Nat.zero_le _, rfl, rfl, ?_, (Below.refl _ w).alloc (Nat.le_refl _) _, fun i hi => by omega⟩
      have := World.iter_heap w s 0
      simpa using this
    case round =>
      obtain ⟨pos, z, hle, rfl, hz, hit, hbw, hall⟩ := hrel
      have hsz : w.heap.size < wr.heap.size := (Array.getElem?_eq_some_iff.1 hit).1
      have hbd := decN_bound s.toList pos (by rw [HLen.out]; exact hle) hall
      have hpw := pow_le pos (by omega)
      rw [← hz] at hbd
      obtain ⟨z1, z2⟩ := hbd
      by_cases hp : pos < s.size
      · have hp9 := pow_le pos (by omega)
        have hz9 : z < 1000000000 := by
          rcases (show pos = 0 ∨ pos = 1 ∨ pos = 2 ∨ pos = 3 ∨ pos = 4 ∨ pos = 5 ∨ pos = 6 ∨ pos = 7 ∨ pos = 8 ∨ pos = 9 by omega) with rfl | rfl | rfl | rfl | rfl | rfl | rfl | rfl | rfl | rfl <;> omega
        obtain ⟨c, k, hdec, hk, hc⟩ := rune_at s pos hp
        have hnx : ∀ ty, (Instr.next (.pointer (some ⟨w.heap.size, 0, none⟩)) true ty).run Tryd.prog wr = .ok (.tuple #[.bool true, .int .i64 pos, .int .i32 c]) (wr.iterAt w.heap.size s (pos + k)) := fun ty => by rw [Lib.run_next_any_at wr w.heap.size s pos ty hit hp, hdec, hk]
        have HI := Lib.hid hit
        have HI2 := Lib.hid (Lib.iterAt_heap wr w.heap.size s pos (pos + k) hit)
        have HB2 := Lib.hid (Lib.below_iterAt hbw (k := w.heap.size) (Nat.le_refl _) s (pos + k))
        have HA := Lib.hid hall
        have HC := Lib.hid hc
        have HZ := Lib.hid hz
        clear hall hit hbw hdec hk hc hz hpw hp9 z2
        cases hu : digitB c
        · have hpu : digitU (s.toList.getD pos 0) = false := by
            rcases HC.out with ⟨e, _, _⟩ | ⟨_, e⟩
            · unfold digitU; rw [← e]; exact hu
            · exact decide_eq_false (by omega)
          obtain rfl : lb = false := by
            rw [← HL.out]; unfold litB
            rw [all_no (by rw [HLen.out]; exact hp) hpu]; simp
          obtain rfl : vv = 0 := HV.out.symm
          clear hpu
          go_wp2_with (go_at_call 70; refine (digit_any _ _).mono ?_; rw [hu]; rintro e w1 ⟨rfl, rfl⟩)
          go_returns
          exact ⟨rfl, HB2.out⟩
        · have hc57 : 48 ≤ c ∧ c ≤ 57 := of_decide_eq_true hu
          obtain ⟨c1, c2⟩ := hc57
          obtain ⟨rfl, hpu, hce⟩ : k = 1 ∧ digitU (s.toList.getD pos 0) = true ∧ c = (s.toList.getD pos 0).toNat := by
            rcases HC.out with ⟨e, rfl, _⟩ | ⟨e, _⟩
            · exact ⟨rfl, by unfold digitU; rw [← e]; exact hu, e⟩
            · omega
          have HU := Lib.hid hpu
          have HN : Hid (10 * z + (c - 48) = decN (s.toList.take (pos + 1))) := by
            show _ = _
            rw [decN_next _ _ (by rw [HLen.out]; exact hp), HZ.out, hce]
          clear hpu hce
          go_wp2_with (go_at_call 70; refine (digit_any _ _).mono ?_; rw [hu]; rintro e w1 ⟨rfl, rfl⟩)
          go_roundw
          case rel =>
            exact ⟨pos + 1, _, by omega, rfl, HN.out, HI2.out, HB2.out, fun i hi => by
              by_cases e : i = pos
              · rw [e]; exact HU.out
              · exact HA.out i (by omega)⟩
          case measure =>
            simp only [World.iterPos, HI2.out, HI.out]
            omega
      · have hnx : ∀ ty, (Instr.next (.pointer (some ⟨w.heap.size, 0, none⟩)) true ty).run Tryd.prog wr = .ok (.tuple #[.bool false]) wr := fun ty => Lib.run_next_end_at wr w.heap.size s pos ty hit hp
        obtain rfl : pos = s.size := by omega
        have hz' : z = decN s.toList := by rw [hz, List.take_of_length_le (by rw [HLen.out]; exact Nat.le_refl _)]
        have had : s.toList.all digitU = true := all_getD.2 (fun i hi => hall i (by rw [HLen.out] at hi; exact hi))
        have hb : lb = decide (z ≤ 2147483647) := by
          rw [← HL.out]; unfold litB
          rw [had, decide_eq_true (show s.toList.length ≤ 10 by rw [HLen.out]; omega), hz']; simp
        have HB := Lib.hid hbw
        have HZ := Lib.hid hz'
        clear hall hbw hit hz hz' had hpw z2
        by_cases hm : z ≤ 2147483647
        · rw [decide_eq_true hm] at hb
          subst hb
          obtain rfl : vv = z := by rw [← HV.out, HZ.out]; rfl
          go_wp2
          go_returns
          exact ⟨rfl, HB.out⟩
        · rw [decide_eq_false hm] at hb
          subst hb
          obtain rfl : vv = 0 := HV.out.symm
          go_wp2
          go_returns
          exact ⟨rfl, HB.out⟩

end Go.Proofs.YtalbcgbfefgjfaaDoor
