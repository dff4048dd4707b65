
/-
  lex.Text.
-/
import Derived.Test.YtalbcgbfefgjfaaDoorLexWr
namespace Go.Proofs.YtalbcgbfefgjfaaDoor
open Go Go.RowKit

/-- A call hands back a string with these bytes, and a number. -/
def GivesTxt (w : World) (l : List UInt8) (c : Int) (e : Ending) (w' : World) : Prop := ∃ p : ByteArray, e = .returned (.tuple #[.string p, .int .i64 c]) ∧ p.toList = l ∧ Below w.heap.size w w'
/-- What Text answers. -/
def textS (xs : List TokR) : List UInt8 := if xs.all mayT = true then if (joinL xs).length ≤ 256 then joinL xs else [] else []
def textE (xs : List TokR) : Int := if xs.all mayT = true then if (joinL xs).length ≤ 256 then 0 else 3 else 2
theorem lineL_zero (xs : List TokR) : lineL 0 xs = joinL xs := by simp [lineL]

theorem WrRes_eq (w : World) (L : List UInt8) : WrRes w L = fun e w' => ∃ q : ByteArray, e = .returned (.tuple #[.string q, .bool (decide (L.length ≤ 256))]) ∧ q.toList = (if L.length ≤ 256 then L else []) ∧ Below w.heap.size w w' := rfl

set_option maxRecDepth 100000 in
theorem text_any (p : Option Addr) (n cp : Nat) (xs : List TokR) (w : World) (hx : Toks w p n xs) (hs : ∀ (i : Nat) (x : TokR), xs[i]? = some x → x.t.size ≤ 9223372036854775807) (hn : n ≤ 4611686018427387904) (ht : PowOk w) :
    Calls Tryd.prog 27 #[.slice p n cp] w (GivesTxt w (textS xs) (textE xs)) := by
  have HX := Lib.hid hx
  have HS := Lib.hid hs
  have HT := Lib.hid ht
  obtain ⟨ts, hts⟩ : ∃ ts, textS xs = ts := ⟨_, rfl⟩
  obtain ⟨te, hte⟩ : ∃ te, textE xs = te := ⟨_, rfl⟩
  rw [hts, hte]
  have HTS := Lib.hid hts
  have HTE := Lib.hid hte
  clear hx hs ht hts hte
  cases hall : xs.all mayT
  · have e1 : ts = [] := by rw [← HTS.out, textS, hall]; rfl
    have e2 : te = 2 := by rw [← HTE.out, textE, hall]; rfl
    have HA := Lib.hid hall
    subst e1 e2
    clear hall
    go_enter Tryd.func27, Tryd.ntmps27
    go_wp2_with (go_at_call 54; refine (exist_any _ _ _ _ _ HX.out HS.out hn).mono ?_; rw [HA.out]; rintro e w1 ⟨rfl, hb⟩; have HB := Lib.hid hb; clear hb)
    go_returns
    exact ⟨⟨#[]⟩, rfl, str_toList [], HB.out⟩
  · have hmem : ∀ x ∈ xs, mayT x = true := List.all_eq_true.1 hall
    have HM := Lib.hid hmem
    have HA := Lib.hid hall
    obtain ⟨b, hb⟩ : ∃ b, decide ((lineL 0 xs).length ≤ 256) = b := ⟨_, rfl⟩
    have HB := Lib.hid hb
    clear hall hmem hb
    cases b
    · have hno : ¬ (joinL xs).length ≤ 256 := by have := HB.out; rw [lineL_zero] at this; simpa using this
      have e1 : ts = [] := by rw [← HTS.out, textS, HA.out, if_pos rfl, if_neg hno]
      have e2 : te = 3 := by rw [← HTE.out, textE, HA.out, if_pos rfl, if_neg hno]
      subst e1 e2
      clear hno
      go_enter Tryd.func27, Tryd.ntmps27
      go_wp2_with (first
        | (go_at_call 54; refine (exist_any _ _ _ _ _ HX.out HS.out hn).mono ?_; rw [HA.out]; rintro e w1 ⟨rfl, hb1⟩; have HB1 := Lib.hid hb1; clear hb1)
        | (go_at_call 55; refine (written_any 0 _ _ _ xs _ (HX.out.below HB1.out) (by omega) hn HM.out (HT.out.below HB1.out)).mono ?_; rw [WrRes_eq, HB.out]; rintro e w2 ⟨q, rfl, hq, hb2⟩; have HB2 := Lib.hid (after HB1.out hb2); clear hb2 hq))
      go_returns
      exact ⟨⟨#[]⟩, rfl, str_toList [], HB2.out⟩
    · have hno : (joinL xs).length ≤ 256 := by have := HB.out; rw [lineL_zero] at this; simpa using this
      have e1 : ts = joinL xs := by rw [← HTS.out, textS, HA.out, if_pos rfl, if_pos hno]
      have e2 : te = 0 := by rw [← HTE.out, textE, HA.out, if_pos rfl, if_pos hno]
      have HNO := Lib.hid hno
      subst e2
      clear hno
      go_enter Tryd.func27, Tryd.ntmps27
      go_wp2_with (first
        | (go_at_call 54; refine (exist_any _ _ _ _ _ HX.out HS.out hn).mono ?_; rw [HA.out]; rintro e w1 ⟨rfl, hb1⟩; have HB1 := Lib.hid hb1; clear hb1)
        | (go_at_call 55; refine (written_any 0 _ _ _ xs _ (HX.out.below HB1.out) (by omega) hn HM.out (HT.out.below HB1.out)).mono ?_; rw [WrRes_eq, HB.out]; rintro e w2 ⟨q, rfl, hq, hb2⟩; have HB2 := Lib.hid (after HB1.out hb2); rw [if_pos (by rw [lineL_zero]; exact HNO.out), lineL_zero] at hq; have HQ := Lib.hid hq; clear hb2 hq))
      go_returns
      exact ⟨q, rfl, by rw [HQ.out, e1], HB2.out⟩

end Go.Proofs.YtalbcgbfefgjfaaDoor
