
/-
  lex.exist, lex.apart; the reference's fine, is.
-/
import Derived.Test.YtalbcgbfefgjfaaDoorLexG
import Derived.Test.YtalbcgbfefgjfaaDoorLexS
namespace Go.Proofs.YtalbcgbfefgjfaaDoor
open Go Go.RowKit

def mayT (z : TokR) : Bool := mayB z.k z.t z.n
theorem all_yes {xs : List TokR} {f : TokR → Bool} (h : ∀ (i : Nat) (x : TokR), xs[i]? = some x → f x = true) : xs.all f = true := by
  rw [List.all_eq_true]
  intro x hx
  obtain ⟨i, hi, rfl⟩ := List.getElem_of_mem hx
  exact h i _ (List.getElem?_eq_getElem hi)
theorem all_not {xs : List TokR} {f : TokR → Bool} {i : Nat} {x : TokR} (h : xs[i]? = some x) (hf : f x = false) : xs.all f = false := by
  cases ha : xs.all f with
  | false => rfl
  | true =>
    rw [List.all_eq_true] at ha
    rw [ha x (List.mem_of_getElem? h)] at hf
    cases hf

set_option maxHeartbeats 1000000 in
theorem exist_any (p : Option Addr) (n cp : Nat) (xs : List TokR) (w : World) (hx : Toks w p n xs) (hs : ∀ (i : Nat) (x : TokR), xs[i]? = some x → x.t.size ≤ 9223372036854775807) (hn : n ≤ 4611686018427387904) :
    Calls Tryd.prog 54 #[.slice p n cp] w (Gives w (.bool (xs.all mayT))) := by
  obtain ⟨r, hr⟩ : ∃ r, xs.all mayT = r := ⟨_, rfl⟩
  rw [hr]
  have HX := Lib.hid hx
  have HS := Lib.hid hs
  have HR := Lib.hid hr
  clear hx hr hs
  go_enter Tryd.func54, Tryd.ntmps54
  go_wp2
  go_loopw [4, 7] (fun _ i wr => ∃ k : Nat, k ≤ n ∧ i = .int .i64 k ∧ Below w.heap.size w wr ∧ ∀ (j : Nat) (x : TokR), j < k → xs[j]? = some x → mayT x = true) (fun _ i _ => n - (intOf i).toNat)
  case atStart => exact ⟨0, Nat.zero_le _, rfl, Below.refl _ _, fun j _ hj => by omega⟩
  case round =>
    obtain ⟨k, hk, rfl, hbel, hall⟩ := hrel
    have HA := Lib.hid hall
    have HB := Lib.hid hbel
    clear hall
    by_cases hlt : k < n
    · obtain ⟨x, hx⟩ := tok_some HX.out.1 hlt
      obtain ⟨a, rfl, hax⟩ := HX.out.2 k x hx
      obtain ⟨x0, x1, x2, x3⟩ := hax.below hbel
      have hsz := HS.out k x hx
      have KX := Lib.hid hx
      clear hx hbel hax
      obtain ⟨xk, xl, xt, xn⟩ := x
      dsimp only at x0 x1 x2 x3 hsz
      have hblx := World.block_lt_of_cell? _ _ x0
      cases he : mayB xk xt xn
      · obtain rfl : r = false := HR.out.symm.trans (all_not KX.out he)
        have HE := Lib.hid he
        clear he
        go_wp2_with fail
        refine (may_any _ _ _ _ _ hsz).mono ?_
        rw [HE.out]
        rintro e w1 ⟨rfl, hb⟩
        have HB1 : Hid (Below w.heap.size w w1) := Lib.hid (after (boxed HB.out _) hb)
        clear hb
        go_wp2_with fail
        go_returns
        exact ⟨rfl, HB1.out⟩
      · have HE := Lib.hid he
        clear he
        go_wp2_with fail
        refine (may_any _ _ _ _ _ hsz).mono ?_
        rw [HE.out]
        rintro e w1 ⟨rfl, hb⟩
        have HB1 : Hid (Below w.heap.size w w1) := Lib.hid (after (boxed HB.out _) hb)
        clear hb
        go_wp2_with fail
        go_roundw
        case rel =>
          refine ⟨k + 1, by omega, by go_num, HB1.out, fun j x hj hx => ?_⟩
          by_cases e : j = k
          · subst e
            obtain rfl := Option.some.inj (KX.out.symm.trans hx)
            exact HE.out
          · exact HA.out j x (by omega) hx
        case measure => simp [intOf]; omega
    · obtain rfl : k = n := by omega
      obtain rfl : r = true := HR.out.symm.trans (all_yes (fun j x hj => HA.out j x (by have := (List.getElem?_eq_some_iff.1 hj).1; have := HX.out.1; omega) hj))
      go_wp2
      go_returns
      exact ⟨rfl, HB.out⟩

set_option maxHeartbeats 1000000 in
theorem rfine_any (p : Option Addr) (n cp : Nat) (xs : List TokR) (w : World) (hx : Toks w p n xs) (hs : ∀ (i : Nat) (x : TokR), xs[i]? = some x → x.t.size ≤ 9223372036854775807) (hn : n ≤ 4611686018427387904) :
    Calls Tryd.prog 56 #[.slice p n cp] w (Gives w (.bool (xs.all mayT))) := by
  obtain ⟨r, hr⟩ : ∃ r, xs.all mayT = r := ⟨_, rfl⟩
  rw [hr]
  have HX := Lib.hid hx
  have HS := Lib.hid hs
  have HR := Lib.hid hr
  clear hx hr hs
  go_enter Tryd.func56, Tryd.ntmps56
  go_wp2
  go_loopw [3] (fun i wr => ∃ k : Nat, k ≤ n ∧ i = .int .i64 k ∧ Below w.heap.size w wr ∧ ∀ (j : Nat) (x : TokR), j < k → xs[j]? = some x → mayT x = true) (fun i _ => n - (intOf i).toNat)
  case atStart => exact ⟨0, Nat.zero_le _, rfl, Below.refl _ _, fun j _ hj => by omega⟩
  case round =>
    obtain ⟨k, hk, rfl, hbel, hall⟩ := hrel
    have HA := Lib.hid hall
    have HB := Lib.hid hbel
    clear hall
    by_cases hlt : k < n
    · obtain ⟨x, hx⟩ := tok_some HX.out.1 hlt
      obtain ⟨a, rfl, hax⟩ := HX.out.2 k x hx
      obtain ⟨x0, x1, x2, x3⟩ := hax.below hbel
      have hsz := HS.out k x hx
      have KX := Lib.hid hx
      clear hx hbel hax
      obtain ⟨xk, xl, xt, xn⟩ := x
      dsimp only at x0 x1 x2 x3 hsz
      cases he : mayB xk xt xn
      · obtain rfl : r = false := HR.out.symm.trans (all_not KX.out he)
        have HE := Lib.hid he
        clear he
        go_wp2_with fail
        refine (rmay_any _ _ _ _ _ hsz).mono ?_
        rw [HE.out]
        rintro e w1 ⟨rfl, hb⟩
        have HB1 : Hid (Below w.heap.size w w1) := Lib.hid (after HB.out hb)
        clear hb
        go_wp2_with fail
        go_returns
        exact ⟨rfl, HB1.out⟩
      · have HE := Lib.hid he
        clear he
        go_wp2_with fail
        refine (rmay_any _ _ _ _ _ hsz).mono ?_
        rw [HE.out]
        rintro e w1 ⟨rfl, hb⟩
        have HB1 : Hid (Below w.heap.size w w1) := Lib.hid (after HB.out hb)
        clear hb
        go_wp2_with fail
        go_roundw
        case rel =>
          refine ⟨k + 1, by omega, by go_num, HB1.out, fun j x hj hx => ?_⟩
          by_cases e : j = k
          · subst e
            obtain rfl := Option.some.inj (KX.out.symm.trans hx)
            exact HE.out
          · exact HA.out j x (by omega) hx
        case measure => simp [intOf]; omega
    · obtain rfl : k = n := by omega
      obtain rfl : r = true := HR.out.symm.trans (all_yes (fun j x hj => HA.out j x (by have := (List.getElem?_eq_some_iff.1 hj).1; have := HX.out.1; omega) hj))
      go_wp2
      go_returns
      exact ⟨rfl, HB.out⟩

/-- Does a space stand between two texts of tokens? -/
def apartV (a b : ByteArray) : Bool :=
  !(b.toList == [44]) && (!(b.toList == [59]) && (!(b.toList == [41]) && (!(b.toList == [39]) && (!(a.toList == [40]) && (!(a.toList == [39]) &&
    ((!(a.toList == [46]) && !(b.toList == [46])) || (stopsB a && stopsB b)))))))

set_option maxRecDepth 100000 in
set_option maxHeartbeats 4000000 in
theorem apart_any (ak al : Int) (s : ByteArray) (an bk bl : Int) (t : ByteArray) (bn : Int) (w : World) :
    Calls Tryd.prog 79 #[.agg #[.int .u8 ak, .int .i64 al, .string s, .int .i64 an], .agg #[.int .u8 bk, .int .i64 bl, .string t, .int .i64 bn]] w (Gives w (.bool (apartV s t))) := by
  unfold apartV
  cases c1 : (t.toList == [44])
  · cases c2 : (t.toList == [59])
    · cases c3 : (t.toList == [41])
      · cases c4 : (t.toList == [39])
        · cases c5 : (s.toList == [40])
          · cases c6 : (s.toList == [39])
            · obtain ⟨r1, h1⟩ : ∃ r, stopsB s = r := ⟨_, rfl⟩
              obtain ⟨r2, h2⟩ : ∃ r, stopsB t = r := ⟨_, rfl⟩
              rw [h1, h2]
              have H1 := Lib.hid h1
              have H2 := Lib.hid h2
              clear h1 h2
              cases c7 : (s.toList == [46])
              all_goals cases c8 : (t.toList == [46])
              all_goals cases r1
              all_goals
                go_enter Tryd.func79, Tryd.ntmps79
                go_wp2_with (first | (go_at_call 94; refine (stops_any s _).mono ?_; rw [H1.out]; rintro e w1 ⟨rfl, rfl⟩) | (go_at_call 94; refine (stops_any t _).mono ?_; rw [H2.out]; rintro e w1 ⟨rfl, rfl⟩))
                go_returns
                exact ⟨rfl, by (repeat' (first | (with_reducible exact Below.refl _ _) | (with_reducible assumption) | (with_reducible refine boxed ?_ _) | (with_reducible refine Below.drew ?_) | (with_reducible refine after ?_ (by assumption))))⟩
            · go_enter Tryd.func79, Tryd.ntmps79
              go_wp2
              go_returns
              exact ⟨rfl, by (repeat' (first | (with_reducible exact Below.refl _ _) | (with_reducible assumption) | (with_reducible refine boxed ?_ _) | (with_reducible refine Below.drew ?_) | (with_reducible refine after ?_ (by assumption))))⟩
          · go_enter Tryd.func79, Tryd.ntmps79
            go_wp2
            go_returns
            exact ⟨rfl, by (repeat' (first | (with_reducible exact Below.refl _ _) | (with_reducible assumption) | (with_reducible refine boxed ?_ _) | (with_reducible refine Below.drew ?_) | (with_reducible refine after ?_ (by assumption))))⟩
        · go_enter Tryd.func79, Tryd.ntmps79
          go_wp2
          go_returns
          exact ⟨rfl, by (repeat' (first | (with_reducible exact Below.refl _ _) | (with_reducible assumption) | (with_reducible refine boxed ?_ _) | (with_reducible refine Below.drew ?_) | (with_reducible refine after ?_ (by assumption))))⟩
      · go_enter Tryd.func79, Tryd.ntmps79
        go_wp2
        go_returns
        exact ⟨rfl, by (repeat' (first | (with_reducible exact Below.refl _ _) | (with_reducible assumption) | (with_reducible refine boxed ?_ _) | (with_reducible refine Below.drew ?_) | (with_reducible refine after ?_ (by assumption))))⟩
    · go_enter Tryd.func79, Tryd.ntmps79
      go_wp2
      go_returns
      exact ⟨rfl, by (repeat' (first | (with_reducible exact Below.refl _ _) | (with_reducible assumption) | (with_reducible refine boxed ?_ _) | (with_reducible refine Below.drew ?_) | (with_reducible refine after ?_ (by assumption))))⟩
  · go_enter Tryd.func79, Tryd.ntmps79
    go_wp2
    go_returns
    exact ⟨rfl, by (repeat' (first | (with_reducible exact Below.refl _ _) | (with_reducible assumption) | (with_reducible refine boxed ?_ _) | (with_reducible refine Below.drew ?_) | (with_reducible refine after ?_ (by assumption))))⟩

/-- Is a token a symbol? -/
def isB (k : Int) (t s : ByteArray) : Bool := k == 4 && t.toList == s.toList
set_option maxHeartbeats 1000000 in
theorem ris_any (k l : Int) (t : ByteArray) (n : Int) (s : ByteArray) (w : World) : Calls Tryd.prog 95 #[.agg #[.int .u8 k, .int .i64 l, .string t, .int .i64 n], .string s] w (Gives w (.bool (isB k t s))) := by
  unfold isB
  cases c1 : (k == 4)
  all_goals cases c2 : (t.toList == s.toList)
  all_goals
    go_enter Tryd.func95, Tryd.ntmps95
    go_wp2
    go_returns
    exact ⟨rfl, by (repeat' (first | (with_reducible exact Below.refl _ _) | (with_reducible assumption) | (with_reducible refine boxed ?_ _) | (with_reducible refine Below.drew ?_) | (with_reducible refine after ?_ (by assumption))))⟩

end Go.Proofs.YtalbcgbfefgjfaaDoor
