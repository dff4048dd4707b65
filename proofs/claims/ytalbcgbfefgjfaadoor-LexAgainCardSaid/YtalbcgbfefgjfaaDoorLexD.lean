
/-
  THE REFERENCE's decimal, text.
-/
import Derived.Test.YtalbcgbfefgjfaaDoorLexH
import Derived.Test.YtalbcgbfefgjfaaDoorLexO
import Derived.Laws.IdiomStrings
namespace Go.Proofs.YtalbcgbfefgjfaaDoor
open Go Go.RowKit

/-- The decimal digits of a number. -/
def decL (n : Nat) : List UInt8 := if n < 10 then [48 + UInt8.ofNat (n % 10)] else decL (n / 10) ++ [48 + UInt8.ofNat (n % 10)]
termination_by n

theorem decL_len : ∀ (k n : Nat), n < 10 ^ (k + 1) → (decL n).length ≤ k + 1
  | 0, n, h => by rw [decL, if_pos (by omega)]; simp
  | k + 1, n, h => by
    rw [decL]
    split
    · simp
    · rw [List.length_append]
      have := decL_len k (n / 10) (by rw [Nat.pow_succ] at h; omega)
      simp; omega
theorem digit_val (n : Nat) : (((48 + UInt8.ofNat (n % 10) : UInt8).toNat : Nat) : Int) = 48 + (n : Int) % 10 := by
  have h : n % 10 < 10 := Nat.mod_lt _ (by omega)
  have e : (48 + UInt8.ofNat (n % 10) : UInt8).toNat = 48 + n % 10 := by
    rw [UInt8.toNat_add, UInt8.toNat_ofNat']
    show (48 + n % 10 % 256) % 256 = 48 + n % 10
    omega
  rw [e]; omega
theorem conv_digit (w : World) (n : Nat) : Sem.run Tryd.prog (convert 45 9 (.slice (some ⟨w.heap.size, 0, none⟩) 1 1)) (w.alloc (.cells #[.int .u8 (48 + (n : Int) % 10)] 5)) = .ok (.string ⟨#[48 + UInt8.ofNat (n % 10)]⟩) (w.alloc (.cells #[.int .u8 (48 + (n : Int) % 10)] 5)) :=
  run_convert_bytes_back _ _ _ 5 ⟨w.heap.size, 0, none⟩ 1 [48 + UInt8.ofNat (n % 10)] Tryd.underlying45 Tryd.underlying5 Tryd.underlying9 (fun j hj => by
    obtain rfl : j = 0 := by simpa using hj
    rw [← digit_val n]
    exact World.cell?_alloc_at _ _ _ _ (by simp))

set_option maxRecDepth 100000 in
theorem rdecimal_any : ∀ (n : Nat) (w : World), n ≤ 9223372036854775807 → Calls Tryd.prog 96 #[.int .i64 n] w (GivesStr w (decL n)) := by
  intro n
  induction n using Nat.strongRecOn with
  | ind n ih =>
    intro w hn
    have IH := Lib.hid ih
    have HN : Hid ((n : Int) ≤ 9223372036854775807) := Lib.hid (by omega)
    have hn2 : (n : Int) ≤ 9223372036854775807 := HN.out
    clear ih hn
    rw [decL]
    by_cases h : n < 10
    · rw [if_pos h]
      go_enter Tryd.func96, Tryd.ntmps96
      have hc := conv_digit w n
      go_wp2_with fail
      go_returns
      exact ⟨_, rfl, by rw [ByteArray.toList_eq], by (repeat' (first | (with_reducible exact Below.refl _ _) | (with_reducible assumption) | (with_reducible refine boxed ?_ _) | (with_reducible refine Below.drew ?_) | (with_reducible refine after ?_ (by assumption))))⟩
    · rw [if_neg h]
      go_enter Tryd.func96, Tryd.ntmps96
      have hc := conv_digit w n
      go_wp2_with fail
      have e10 : (n : Int) / 10 = ((n / 10 : Nat) : Int) := by omega
      rw [e10]
      refine (IH.out (n / 10) (by omega) _ (by have := HN.out; omega)).mono ?_
      rintro e w1 ⟨p, rfl, hp, hb⟩
      have HP := Lib.hid hp
      have HB : Hid (Below w.heap.size w w1) := Lib.hid (after (by (repeat' (first | (with_reducible exact Below.refl _ _) | (with_reducible assumption) | (with_reducible refine boxed ?_ _) | (with_reducible refine Below.drew ?_) | (with_reducible refine after ?_ (by assumption))))) hb)
      clear hp hb hc e10
      have hsz : p.size ≤ 20 := by
        have hl := decL_len 19 (n / 10) (by have := HN.out; omega)
        rw [← HP.out, length_toList] at hl
        exact hl
      go_wp2_with fail
      go_returns
      exact ⟨_, rfl, by rw [ByteArray.toList_eq, ← HP.out, ByteArray.toList_eq]; simp, HB.out⟩

end Go.Proofs.YtalbcgbfefgjfaaDoor
