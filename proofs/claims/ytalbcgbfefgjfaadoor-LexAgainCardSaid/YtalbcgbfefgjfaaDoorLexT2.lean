
/-
  THE REFERENCE's text, close.
-/
import Derived.Test.YtalbcgbfefgjfaaDoorLexD
namespace Go.Proofs.YtalbcgbfefgjfaaDoor
open Go Go.RowKit

/-- The text of a token. -/
def textL (k : Int) (t : ByteArray) (n : Int) : List UInt8 := if k = 3 then decL n.toNat else t.toList

theorem rtext_any (k l : Int) (t : ByteArray) (n : Int) (w : World) (h : k = 3 → 0 ≤ n ∧ n ≤ 9223372036854775807) : Calls Tryd.prog 81 #[.agg #[.int .u8 k, .int .i64 l, .string t, .int .i64 n]] w (GivesStr w (textL k t n)) := by
  unfold textL
  by_cases hk : k = 3
  · rw [if_pos hk]
    obtain ⟨h0, h1⟩ := h hk
    obtain ⟨m, rfl⟩ := Int.eq_ofNat_of_zero_le h0
    subst hk
    have HM : Hid ((m : Int) ≤ 9223372036854775807) := h1
    clear h h0 h1
    go_enter Tryd.func81, Tryd.ntmps81
    go_wp2_with fail
    refine (rdecimal_any m _ (by have := HM.out; omega)).mono ?_
    rintro e w1 ⟨p, rfl, hp, hb⟩
    have HP := Lib.hid hp
    have HB : Hid (Below w.heap.size w w1) := Lib.hid (after (by (repeat' (first | (with_reducible exact Below.refl _ _) | (with_reducible assumption) | (with_reducible refine boxed ?_ _) | (with_reducible refine Below.drew ?_) | (with_reducible refine after ?_ (by assumption))))) hb)
    clear hp hb
    go_wp2_with fail
    go_returns
    exact ⟨_, rfl, by rw [HP.out]; simp, HB.out⟩
  · rw [if_neg hk]
    have hb : (k == 3) = false := beq_eq_false_iff_ne.2 hk
    clear h hk
    go_enter Tryd.func81, Tryd.ntmps81
    go_wp2
    go_returns
    exact ⟨_, rfl, rfl, by (repeat' (first | (with_reducible exact Below.refl _ _) | (with_reducible assumption) | (with_reducible refine boxed ?_ _) | (with_reducible refine Below.drew ?_) | (with_reducible refine after ?_ (by assumption))))⟩

/-- Is there no space between two tokens? -/
def closeB (ak : Int) (s : ByteArray) (bk : Int) (t : ByteArray) : Bool :=
  isB bk t ⟨#[44]⟩ || (isB bk t ⟨#[59]⟩ || (isB bk t ⟨#[41]⟩ || (isB bk t ⟨#[39]⟩ || (isB ak s ⟨#[40]⟩ || (isB ak s ⟨#[39]⟩ ||
    ((isB ak s ⟨#[46]⟩ && (!isB bk t ⟨#[46]⟩ && !isB bk t ⟨#[46, 46]⟩)) || (isB bk t ⟨#[46]⟩ && (!isB ak s ⟨#[46]⟩ && !isB ak s ⟨#[46, 46]⟩))))))))

end Go.Proofs.YtalbcgbfefgjfaaDoor
