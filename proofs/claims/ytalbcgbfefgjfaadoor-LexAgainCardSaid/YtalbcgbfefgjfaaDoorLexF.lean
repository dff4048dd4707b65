
/-
  lex.Same: slices.EqualFunc at tokens.
-/
import Derived.Test.YtalbcgbfefgjfaaDoorLexE
namespace Go.Proofs.YtalbcgbfefgjfaaDoor
open Go Go.RowKit

set_option maxHeartbeats 1000000 in
theorem equalFunc_any (p q : Option Addr) (n m cp cq : Nat) (xs ys : List TokR) (w : World) (hx : Toks w p n xs) (hy : Toks w q m ys) (hn : n ≤ 4611686018427387904) (hm : m ≤ 4611686018427387904) :
    Calls Tryd.prog 50 #[.slice p n cp, .slice q m cq, .func (.func 51) #[] #[]] w (Gives w (.bool (allB tokLike xs ys))) := by
  obtain ⟨r, hr⟩ : ∃ r, allB tokLike xs ys = r := ⟨_, rfl⟩
  rw [hr]
  have HX := Lib.hid hx
  have HY := Lib.hid hy
  have HR := Lib.hid hr
  clear hx hy hr
  by_cases hnm : n = m
  · subst hnm
    go_enter Tryd.func50, Tryd.ntmps50
    go_wp2
    go_loopw [7, 8, 9, 17] (fun _ _ _ i wr => ∃ k : Nat, k ≤ n ∧ i = .int .i64 k ∧ Below w.heap.size w wr ∧ ∀ j x y, j < k → xs[j]? = some x → ys[j]? = some y → tokLike x y = true) (fun _ _ _ i _ => n - (intOf i).toNat)
    case atStart => exact ⟨0, Nat.zero_le _, rfl, Below.refl _ _, fun j _ _ hj => by omega⟩
    case round =>
      obtain ⟨k, hk, rfl, hbel, hall⟩ := hrel
      have HA := Lib.hid hall
      have HB := Lib.hid hbel
      clear hall
      by_cases hlt : k < n
      · obtain ⟨x, hx⟩ := tok_some HX.out.1 hlt
        obtain ⟨y, hy⟩ := tok_some HY.out.1 hlt
        obtain ⟨a, rfl, hax⟩ := HX.out.2 k x hx
        obtain ⟨b, rfl, hby⟩ := HY.out.2 k y hy
        obtain ⟨x0, x1, x2, x3⟩ := hax.below hbel
        obtain ⟨y0, y1, y2, y3⟩ := hby.below hbel
        have KX := Lib.hid hx
        have KY := Lib.hid hy
        clear hx hy hbel hax hby
        obtain ⟨xk, xl, xt, xn⟩ := x
        obtain ⟨yk, yl, yt, yn⟩ := y
        dsimp only at x0 x1 x2 x3 y0 y1 y2 y3
        have hblx := World.block_lt_of_cell? _ _ x0
        have hbly := World.block_lt_of_cell? _ _ y0
        cases he : likeB xk xt xn yk yt yn
        · obtain rfl : r = false := HR.out.symm.trans (allB_no _ _ _ k _ _ KX.out KY.out he)
          have HE := Lib.hid he
          clear he
          go_wp2_with fail
          refine (like_any _ _ _ _ _ _ _ _ _).mono ?_
          rw [HE.out]
          rintro e w1 ⟨rfl, hb⟩
          have HB1 : Hid (Below w.heap.size w w1) := Lib.hid (after (boxed (boxed HB.out _) _) hb)
          clear hb
          go_wp2_with fail
          go_returns
          exact ⟨rfl, HB1.out⟩
        · have HE := Lib.hid he
          clear he
          go_wp2_with fail
          refine (like_any _ _ _ _ _ _ _ _ _).mono ?_
          rw [HE.out]
          rintro e w1 ⟨rfl, hb⟩
          have HB1 : Hid (Below w.heap.size w w1) := Lib.hid (after (boxed (boxed HB.out _) _) hb)
          clear hb
          go_wp2_with fail
          go_roundw
          case rel =>
            refine ⟨k + 1, by omega, by go_num, HB1.out, fun j x y hj hx hy => ?_⟩
            by_cases e : j = k
            · subst e
              obtain rfl := Option.some.inj (KX.out.symm.trans hx)
              obtain rfl := Option.some.inj (KY.out.symm.trans hy)
              exact HE.out
            · exact HA.out j x y (by omega) hx hy
          case measure => simp [intOf]; omega
      · obtain rfl : k = n := by omega
        obtain rfl : r = true := HR.out.symm.trans (allB_yes _ _ _ (by rw [HX.out.1, HY.out.1]) (fun j x y hj hj' => HA.out j x y (by have := (List.getElem?_eq_some_iff.1 hj).1; have := HX.out.1; omega) hj hj'))
        go_wp2
        go_returns
        exact ⟨rfl, HB.out⟩
  · obtain rfl : r = false := HR.out.symm.trans (allB_len _ _ _ (by rw [HX.out.1, HY.out.1]; exact hnm))
    go_enter Tryd.func50, Tryd.ntmps50
    go_wp2
    go_returns
    exact ⟨rfl, Below.refl _ _⟩

theorem same_any (p q : Option Addr) (n m cp cq : Nat) (xs ys : List TokR) (w : World) (hx : Toks w p n xs) (hy : Toks w q m ys) (hn : n ≤ 4611686018427387904) (hm : m ≤ 4611686018427387904) :
    Calls Tryd.prog 22 #[.slice p n cp, .slice q m cq] w (Gives w (.bool (allB tokLike xs ys))) := by
  obtain ⟨r, hr⟩ : ∃ r, allB tokLike xs ys = r := ⟨_, rfl⟩
  have HR := Lib.hid hr
  rw [hr]
  clear hr
  have HX := Lib.hid hx
  have HY := Lib.hid hy
  clear hx hy
  go_enter Tryd.func22, Tryd.ntmps22
  go_wp2_with fail
  refine (equalFunc_any _ _ _ _ _ _ xs ys _ HX.out HY.out hn hm).mono ?_
  rw [HR.out]
  rintro e w1 ⟨rfl, hb⟩
  go_wp2_with fail
  go_returns
  exact ⟨rfl, hb⟩

end Go.Proofs.YtalbcgbfefgjfaaDoor
