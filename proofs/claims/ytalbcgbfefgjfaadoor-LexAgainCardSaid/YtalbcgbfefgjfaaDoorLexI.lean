
/-
  THE REFERENCE's integer, symbol.
-/
import Derived.Test.YtalbcgbfefgjfaaDoorLexO
import Derived.Deep.QuietTactic
import Derived.BigQuiet
namespace Go.Proofs.YtalbcgbfefgjfaaDoor
open Go Go.RowKit

set_option maxHeartbeats 1000000 in
theorem rinteger_any (s : ByteArray) (w : World) : Calls Tryd.prog 77 #[.string s] w fun e w' => e = .returned (.int .i64 (if litB s.toList = true then decN s.toList else -1)) ∧ w = w' := by
  have hlen := length_toList s
  obtain ⟨lb, hlb⟩ : ∃ lb, litB s.toList = lb := ⟨_, rfl⟩
  rw [hlb]
  obtain ⟨vv, hvv⟩ : ∃ vv, (if lb = true then decN s.toList else -1) = vv := ⟨_, rfl⟩
  rw [hvv]
  have HL := Lib.hid hlb
  have HV := Lib.hid hvv
  clear hlb hvv
  by_cases h10 : 10 < s.size
  · obtain rfl : lb = false := by
      rw [← HL.out]; unfold litB; rw [decide_eq_false (by omega)]; rfl
    obtain rfl : vv = -1 := HV.out.symm
    clear hlen
    go_enter Tryd.func77, Tryd.ntmps77
    go_wp2
    go_returns
    exact ⟨rfl, rfl⟩
  · have HLen := Lib.hid hlen
    have hle10 : s.size ≤ 10 := by omega
    clear hlen h10
    go_enter Tryd.func77, Tryd.ntmps77
    go_wp2
    go_loop [3, 4] (fun n i => ∃ (pos : Nat) (z : Int), pos ≤ s.size ∧ i = .int .i64 pos ∧ n = .int .i64 z ∧ z = decN (s.toList.take pos) ∧ ∀ i, i < pos → digitU (s.toList.getD i 0) = true) (fun _ i => s.size - (intOf i).toNat)
    case atStart => exact ⟨0, 0, Nat.zero_le _, rfl, rfl, rfl, fun i hi => by omega⟩
    case round =>
      obtain ⟨pos, z, hle, rfl, rfl, hz, hall⟩ := hrel
      have hbd := decN_bound s.toList pos (by rw [HLen.out]; exact hle) hall
      have hpw := pow_le pos (by omega)
      rw [← hz] at hbd
      obtain ⟨z1, z2⟩ := hbd
      by_cases hp : pos < s.size
      · have hp9 := pow_le pos (by omega)
        have hz9 : z < 1000000000 := by
          rcases (show pos = 0 ∨ pos = 1 ∨ pos = 2 ∨ pos = 3 ∨ pos = 4 ∨ pos = 5 ∨ pos = 6 ∨ pos = 7 ∨ pos = 8 ∨ pos = 9 by omega) with rfl | rfl | rfl | rfl | rfl | rfl | rfl | rfl | rfl | rfl <;> omega
        have hgd := getD_data s pos hp
        have HA := Lib.hid hall
        have HZ := Lib.hid hz
        clear hall hz hpw hp9 z2
        cases hu : digitB (s[pos]'hp).toNat
        · obtain rfl : lb = false := by
            rw [← HL.out]; unfold litB
            rw [all_no (by rw [HLen.out]; exact hp) (show digitU (s.toList.getD pos 0) = false by rw [hgd]; exact hu)]; simp
          obtain rfl : vv = -1 := HV.out.symm
          clear hgd
          go_wp2_with (go_at_call 71; refine (rdigit_any _ _).mono ?_; rw [hu]; rintro e w1 ⟨rfl, rfl⟩)
          go_returns
          exact ⟨rfl, rfl⟩
        · have hc57 : 48 ≤ ((s[pos]'hp).toNat : Int) ∧ ((s[pos]'hp).toNat : Int) ≤ 57 := of_decide_eq_true hu
          obtain ⟨c1, c2⟩ := hc57
          have HU : Hid (digitU (s.toList.getD pos 0) = true) := by show _ = _; rw [hgd]; exact hu
          have HN : Hid (10 * z + (((s[pos]'hp).toNat : Int) - 48) = decN (s.toList.take (pos + 1))) := by
            show _ = _
            rw [decN_next _ _ (by rw [HLen.out]; exact hp), HZ.out, hgd]
          clear hgd
          go_wp2_with (go_at_call 71; refine (rdigit_any _ _).mono ?_; rw [hu]; rintro e w1 ⟨rfl, rfl⟩)
          go_round
          case rel =>
            exact ⟨pos + 1, _, by omega, by go_num, rfl, HN.out, fun i hi => by
              by_cases e : i = pos
              · rw [e]; exact HU.out
              · exact HA.out i (by omega)⟩
          case measure => simp [intOf]; omega
      · obtain rfl : pos = s.size := by omega
        have hz' : z = decN s.toList := by rw [hz, List.take_of_length_le (by rw [HLen.out]; exact Nat.le_refl _)]
        have had : s.toList.all digitU = true := all_getD.2 (fun i hi => hall i (by rw [HLen.out] at hi; exact hi))
        have hb : lb = decide (z ≤ 2147483647) := by
          rw [← HL.out]; unfold litB
          rw [had, decide_eq_true (show s.toList.length ≤ 10 by rw [HLen.out]; omega), hz']; simp
        have HZ := Lib.hid hz'
        clear hall hz hz' had hpw z2
        by_cases hm : z ≤ 2147483647
        · rw [decide_eq_true hm] at hb
          subst hb
          obtain rfl : vv = z := by rw [← HV.out, HZ.out]; rfl
          go_wp2
          go_returns
          exact ⟨rfl, rfl⟩
        · rw [decide_eq_false hm] at hb
          subst hb
          obtain rfl : vv = -1 := HV.out.symm
          go_wp2
          go_returns
          exact ⟨rfl, rfl⟩

/-! ### the symbol with which a text begins -/
theorem below_draws {B : Nat} {a w : World} (h : Below B a w) (n : Nat) : Below B a (w.drewN n) := h.trans ⟨rfl, rfl, rfl, Nat.le_refl _, fun _ _ => rfl⟩

def prefB (k l : List UInt8) : Bool := decide (k.length ≤ l.length) && (l.take k.length == k)
def symN (l : List UInt8) : Nat := ((symL.find? fun k => prefB k l).getD []).length

theorem symN_at {l : List UInt8} {k : Nat} (hk : k < 22) (hno : ∀ m, m < k → prefB (symL.getD m []) l = false) (hy : prefB (symL.getD k []) l = true) : symN l = (symL.getD k []).length := by
  unfold symN
  have h22 : symL.length = 22 := rfl
  have e : symL.getD k [] = symL[k]'(by omega) := by rw [List.getD_eq_getElem?_getD, List.getElem?_eq_getElem (by omega)]; rfl
  have hf : symL.find? (fun k => prefB k l) = some (symL[k]'(by omega)) := by
    rw [List.find?_eq_some_iff_getElem]
    refine ⟨by rw [← e]; exact hy, k, by omega, rfl, fun j hj => ?_⟩
    have := hno j hj
    rw [List.getD_eq_getElem?_getD, List.getElem?_eq_getElem (by omega)] at this
    simpa using this
  rw [hf, e]; rfl
theorem symN_no {l : List UInt8} (hno : ∀ m, m < 22 → prefB (symL.getD m []) l = false) : symN l = 0 := by
  unfold symN
  have h22 : symL.length = 22 := rfl
  have hf : symL.find? (fun k => prefB k l) = none := by
    rw [List.find?_eq_none]
    intro x hx
    obtain ⟨m, hm, rfl⟩ := List.getElem_of_mem hx
    have := hno m (by omega)
    rw [List.getD_eq_getElem?_getD, List.getElem?_eq_getElem (by omega)] at this
    have e : (some (symL[m]'hm)).getD [] = symL[m]'hm := rfl
    rw [e] at this
    rw [this]
    simp
  rw [hf]; rfl

theorem rsymbolN_any (s : ByteArray) (w : World) (_ : s.size ≤ 9223372036854775807) : Calls Tryd.prog 78 #[.string s] w (Gives w (.int .i64 (symN s.toList))) := by
  have hlen := length_toList s
  obtain ⟨r, hr⟩ : ∃ r, symN s.toList = r := ⟨_, rfl⟩
  rw [hr]
  have HR := Lib.hid hr
  have HLen := Lib.hid hlen
  clear hr hlen
  go_enter Tryd.func78, Tryd.ntmps78
  go_wp2_with fail
  refine (rsymbols_any _).mono ?_
  rintro e w1 ⟨rfl, hb1, hst⟩
  have HS := Lib.hid hst
  have HB := Lib.hid hb1
  have hsz : w.heap.size < w1.heap.size := by
    obtain ⟨t, ht, _⟩ := hst.2 0 (by omega)
    exact World.block_lt_of_cell? _ _ ht
  clear hst hb1
  generalize w.heap.size = g at HS hsz
  go_wp2_with fail
  go_loopw [4] (fun i wr => ∃ k : Nat, k ≤ 22 ∧ i = .int .i64 k ∧ Below w1.heap.size w1 wr ∧ ∀ m, m < k → prefB (symL.getD m []) s.toList = false) (fun i _ => 22 - (intOf i).toNat)
  case atStart => exact ⟨0, Nat.zero_le _, rfl, Below.refl _ _, fun m hm => by omega⟩
  case round =>
    obtain ⟨k, hk, rfl, hbl, hno⟩ := hrel
    have HN := Lib.hid hno
    have HBL := Lib.hid hbl
    clear hno
    by_cases hlt : k < 22
    · obtain ⟨t, ht, htl⟩ := HS.out.2 k hlt
      have ht' : wr.cell? ⟨g, k, none⟩ = some (.string t) := by rw [hbl.cell (p := ⟨g, k, none⟩) hsz]; exact ht
      have hts : t.size = (symL.getD k []).length := by rw [← htl, length_toList]
      have HTS := Lib.hid hts
      have HT := Lib.hid htl
      have h2 : t.size ≤ 2 := by
        have hall : ∀ x ∈ symL, x.length ≤ 2 := by decide
        rw [hts, List.getD_eq_getElem?_getD, List.getElem?_eq_getElem (show k < symL.length from hlt)]
        exact hall _ (List.getElem_mem _)
      have HP : Hid (prefB (symL.getD k []) s.toList = (decide (t.size ≤ s.size) && ((s.extract 0 t.size).toList == t.toList))) := by
        show _ = _
        unfold prefB
        rw [HLen.out, ← HTS.out, toList_front, ← HT.out]
      clear ht hts htl hbl
      by_cases hn : t.size ≤ s.size
      · cases he : ((s.extract 0 t.size).toList == t.toList)
        · have hp : Hid (prefB (symL.getD k []) s.toList = false) := by show _ = _; rw [HP.out, he, Bool.and_false]
          have he' : ¬ (s.extract 0 t.size).toList = t.toList := beq_eq_false_iff_ne.1 he
          go_wp2_with fail
          go_quiet (fail)
          go_wp2_with fail
          go_roundw
          case rel =>
            refine ⟨k + 1, by omega, by go_num, ?_, fun m hm => ?_⟩
            · exact below_draws HBL.out _
            · by_cases e : m = k
              · rw [e]; exact hp.out
              · exact HN.out m (by omega)
          case measure => simp [intOf]; omega
        · have hp : prefB (symL.getD k []) s.toList = true := by rw [HP.out, he, decide_eq_true hn]; rfl
          obtain rfl : r = t.size := by rw [← HR.out, symN_at hlt HN.out hp, HTS.out]
          have he' : (s.extract 0 t.size).toList = t.toList := eq_of_beq he
          clear hp he
          go_wp2_with fail
          go_quiet (fail)
          go_wp2_with fail
          go_returns
          exact ⟨rfl, after HB.out (below_draws HBL.out _)⟩
      · have hp : Hid (prefB (symL.getD k []) s.toList = false) := by show _ = _; rw [HP.out, decide_eq_false hn, Bool.false_and]
        go_wp2_with fail
        go_quiet (fail)
        go_wp2_with fail
        go_roundw
        case rel =>
          refine ⟨k + 1, by omega, by go_num, ?_, fun m hm => ?_⟩
          · exact below_draws HBL.out _
          · by_cases e : m = k
            · rw [e]; exact hp.out
            · exact HN.out m (by omega)
        case measure => simp [intOf]; omega
    · obtain rfl : k = 22 := by omega
      obtain rfl : r = 0 := by rw [← HR.out]; exact symN_no HN.out
      clear hbl
      go_wp2_with fail
      go_returns
      exact ⟨rfl, after HB.out HBL.out⟩

end Go.Proofs.YtalbcgbfefgjfaaDoor
