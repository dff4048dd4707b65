
/-
  TOKENS IN A SLICE; the equality of two slices of tokens.
-/
import Derived.Test.YtalbcgbfefgjfaaDoorLexM
import Derived.Deep.RegionHeld3
namespace Go.Proofs.YtalbcgbfefgjfaaDoor
open Go Go.RowKit

/-- A token. -/
structure TokR where
  k : Int
  l : Int
  t : ByteArray
  n : Int

/-- A token lies at an address. -/
structure TokAt (w : World) (a : Addr) (z : TokR) : Prop where
  c0 : w.cell? a = some (.int .u8 z.k)
  c1 : w.cell? ⟨a.block, a.off + 1, none⟩ = some (.int .i64 z.l)
  c2 : w.cell? ⟨a.block, a.off + 2, none⟩ = some (.string z.t)
  c3 : w.cell? ⟨a.block, a.off + 3, none⟩ = some (.int .i64 z.n)

/-- A slice's tokens. -/
def Toks (w : World) (p : Option Addr) (n : Nat) (zs : List TokR) : Prop := zs.length = n ∧ ∀ i z, zs[i]? = some z → ∃ a, p = some a ∧ TokAt w (a.add (i * 4)) z

theorem keepA' {W w1 : World} {a : Addr} {v : Value} (hb : Below W.heap.size W w1) (h : W.cell? a = some v) : w1.cell? a = some v := by
  rw [hb.cell (World.block_lt_of_cell? W a h)]; exact h
theorem TokAt.below {w W : World} {a : Addr} {z : TokR} (h : TokAt w a z) (hb : Below w.heap.size w W) : TokAt W a z :=
  ⟨keepA' hb h.c0, keepA' hb h.c1, keepA' hb h.c2, keepA' hb h.c3⟩
theorem Toks.below {w W : World} {p : Option Addr} {n : Nat} {zs : List TokR} (h : Toks w p n zs) (hb : Below w.heap.size w W) : Toks W p n zs :=
  ⟨h.1, fun i z hz => by obtain ⟨a, rfl, ha⟩ := h.2 i z hz; exact ⟨a, rfl, ha.below hb⟩⟩

/-- Two lists agree, element by element. -/
def allB (f : TokR → TokR → Bool) : List TokR → List TokR → Bool
  | [], [] => true
  | x :: xs, y :: ys => f x y && allB f xs ys
  | _, _ => false
theorem allB_len (f : TokR → TokR → Bool) : ∀ xs ys : List TokR, ¬ xs.length = ys.length → allB f xs ys = false
  | [], [], h => absurd rfl h
  | [], _ :: _, _ => rfl
  | _ :: _, [], _ => rfl
  | x :: xs, y :: ys, h => by
    unfold allB
    rw [allB_len f xs ys (fun e => h (by simp [e]))]
    simp
theorem allB_yes (f : TokR → TokR → Bool) : ∀ xs ys : List TokR, xs.length = ys.length → (∀ (i : Nat) (x y : TokR), xs[i]? = some x → ys[i]? = some y → f x y = true) → allB f xs ys = true
  | [], [], _, _ => rfl
  | [], _ :: _, h, _ => by simp at h
  | _ :: _, [], h, _ => by simp at h
  | x :: xs, y :: ys, h, k => by
    unfold allB
    rw [k 0 x y rfl rfl, allB_yes f xs ys (by simpa using h) (fun (i : Nat) a b ha hb => k (i + 1) a b (by simpa using ha) (by simpa using hb))]
    rfl
theorem allB_no (f : TokR → TokR → Bool) : ∀ (xs ys : List TokR) (i : Nat) (x y : TokR), xs[i]? = some x → ys[i]? = some y → f x y = false → allB f xs ys = false
  | [], _, i, x, y, h, _, _ => by simp at h
  | _ :: _, [], i, x, y, _, h, _ => by simp at h
  | a :: xs, b :: ys, 0, x, y, h, h', e => by
    simp at h h'
    subst h h'
    unfold allB
    rw [e]; rfl
  | a :: xs, b :: ys, i + 1, x, y, h, h', e => by
    unfold allB
    rw [allB_no f xs ys i x y (by simpa using h) (by simpa using h') e]
    simp

/-- Are two tokens equal? -/
def tokEq (x y : TokR) : Bool := x.k == y.k && (x.l == y.l && (x.t.toList == y.t.toList && x.n == y.n))
/-- Are two tokens equal but for their lines? -/
def tokLike (x y : TokR) : Bool := likeB x.k x.t x.n y.k y.t y.n

theorem tok_some {zs : List TokR} {n k : Nat} (h : zs.length = n) (hk : k < n) : ∃ z, zs[k]? = some z := ⟨zs[k]'(by omega), List.getElem?_eq_getElem (by omega)⟩

set_option maxHeartbeats 1000000 in
theorem equal_any (p q : Option Addr) (n m cp cq : Nat) (xs ys : List TokR) (w : World) (hx : Toks w p n xs) (hy : Toks w q m ys) (hn : n ≤ 4611686018427387904) (hm : m ≤ 4611686018427387904) :
    Calls Tryd.prog 26 #[.slice p n cp, .slice q m cq] w (Gives w (.bool (allB tokEq xs ys))) := by
  obtain ⟨r, hr⟩ : ∃ r, allB tokEq xs ys = r := ⟨_, rfl⟩
  rw [hr]
  have HX := Lib.hid hx
  have HY := Lib.hid hy
  have HR := Lib.hid hr
  clear hx hy hr
  by_cases hnm : n = m
  · subst hnm
    go_enter Tryd.func26, Tryd.ntmps26
    go_wp2
    go_loopw [5, 13] (fun _ i wr => ∃ k : Nat, k ≤ n ∧ i = .int .i64 k ∧ Below w.heap.size w wr ∧ ∀ j x y, j < k → xs[j]? = some x → ys[j]? = some y → tokEq x y = true) (fun _ i _ => n - (intOf i).toNat)
    case atStart => exact ⟨0, Nat.zero_le _, rfl, Below.refl _ _, fun j _ _ hj => by omega⟩
    case round =>
      obtain ⟨k, hk, rfl, hbel, hall⟩ := hrel
      have HA := Lib.hid hall
      have HB := Lib.hid hbel
      clear hall
      by_cases hlt : k < n
      · obtain ⟨x, hx⟩ := tok_some HX.out.1 hlt
        obtain ⟨y, hy⟩ := tok_some HY.out.1 hlt
        obtain ⟨a, rfl, hax⟩ := HX.out.2 k x hx
        obtain ⟨b, rfl, hby⟩ := HY.out.2 k y hy
        obtain ⟨x0, x1, x2, x3⟩ := hax.below hbel
        obtain ⟨y0, y1, y2, y3⟩ := hby.below hbel
        have KX := Lib.hid hx
        have KY := Lib.hid hy
        clear hx hy hbel hax hby
        obtain ⟨xk, xl, xt, xn⟩ := x
        obtain ⟨yk, yl, yt, yn⟩ := y
        dsimp only at x0 x1 x2 x3 y0 y1 y2 y3
        cases he : tokEq ⟨xk, xl, xt, xn⟩ ⟨yk, yl, yt, yn⟩
        · obtain rfl : r = false := HR.out.symm.trans (allB_no _ _ _ k _ _ KX.out KY.out he)
          cases h1 : (xk == yk)
          all_goals cases h2 : (xl == yl)
          all_goals cases h3 : (xt.toList == yt.toList)
          all_goals cases h4 : (xn == yn)
          all_goals try (exfalso; simp only [tokEq, h1, h2, h3, h4] at he; cases he; done)
          all_goals
            clear he
            -- REGION EQ
            go_wp2_with fail
            refine wp_region_held_drew (S := fun w' => w'.cell? (a.add (k * 4)) = some (.int .u8 xk) ∧ w'.cell? ⟨(a.add (k * 4)).block, (a.add (k * 4)).off + 1, none⟩ = some (.int .i64 xl) ∧ w'.cell? ⟨(a.add (k * 4)).block, (a.add (k * 4)).off + 2, none⟩ = some (.string xt) ∧ w'.cell? ⟨(a.add (k * 4)).block, (a.add (k * 4)).off + 3, none⟩ = some (.int .i64 xn) ∧ w'.cell? (b.add (k * 4)) = some (.int .u8 yk) ∧ w'.cell? ⟨(b.add (k * 4)).block, (b.add (k * 4)).off + 1, none⟩ = some (.int .i64 yl) ∧ w'.cell? ⟨(b.add (k * 4)).block, (b.add (k * 4)).off + 2, none⟩ = some (.string yt) ∧ w'.cell? ⟨(b.add (k * 4)).block, (b.add (k * 4)).off + 3, none⟩ = some (.int .i64 yn)) (by kernel_rfl) ⟨x0, x1, x2, x3, y0, y1, y2, y3⟩ (fun hHeld => ?_)
            refine wpAnyH_take (i := 0) (v := ?_) (by simp only [List.getElem?_toArray, List.getElem?_cons_zero]; rfl) (by kernel_rfl) (by kernel_rfl) (by kernel_rfl) (by exact fun _ _ _ h => h) (Or.inl ⟨by rfl, ?_⟩) (by assumption) ?_
            rotate_left
            · (intro w' hSw; (try dsimp only at hSw); go_simp; try with_reducible rfl)
            try simp only [Act.put, List.setIfInBounds_toArray, List.set_cons_zero, List.set_cons_succ]
            refine wpAnyH_take (i := 1) (v := ?_) (by simp only [List.getElem?_toArray, List.getElem?_cons_zero, List.getElem?_cons_succ]; rfl) (by kernel_rfl) (by kernel_rfl) (by kernel_rfl) (by exact fun _ _ _ h => h) (Or.inl ⟨by rfl, ?_⟩) (by assumption) ?_
            rotate_left
            · (intro w' hSw; (try dsimp only at hSw); go_simp; try with_reducible rfl)
            try simp only [Act.put, List.setIfInBounds_toArray, List.set_cons_zero, List.set_cons_succ]
            refine wpAnyH_take (i := 2) (v := ?_) (by simp only [List.getElem?_toArray, List.getElem?_cons_zero, List.getElem?_cons_succ]; rfl) (by kernel_rfl) (by kernel_rfl) (by kernel_rfl) (by exact fun _ _ _ h => h) (Or.inl ⟨by rfl, ?_⟩) (by assumption) ?_
            rotate_left
            · (intro w' hSw; (try dsimp only at hSw); go_simp; try with_reducible rfl)
            try simp only [Act.put, List.setIfInBounds_toArray, List.set_cons_zero, List.set_cons_succ]
            refine wpAnyH_take (i := 3) (v := ?_) (by simp only [List.getElem?_toArray, List.getElem?_cons_zero, List.getElem?_cons_succ]; rfl) (by kernel_rfl) (by kernel_rfl) (by kernel_rfl) (by exact fun _ _ _ h => h) (Or.inl ⟨by rfl, ?_⟩) (by assumption) ?_
            rotate_left
            · (intro w' hSw; (try dsimp only at hSw); go_simp; try with_reducible rfl)
            try simp only [Act.put, List.setIfInBounds_toArray, List.set_cons_zero, List.set_cons_succ]
            refine wpAnyH_take (i := 4) (v := ?_) (by simp only [List.getElem?_toArray, List.getElem?_cons_zero, List.getElem?_cons_succ]; rfl) (by kernel_rfl) (by kernel_rfl) (by kernel_rfl) (by exact fun _ _ _ h => h) (Or.inl ⟨by rfl, ?_⟩) (by assumption) ?_
            rotate_left
            · (intro w' hSw; (try dsimp only at hSw); go_simp; try with_reducible rfl)
            try simp only [Act.put, List.setIfInBounds_toArray, List.set_cons_zero, List.set_cons_succ]
            refine wpAnyH_take (i := 5) (v := ?_) (by simp only [List.getElem?_toArray, List.getElem?_cons_zero, List.getElem?_cons_succ]; rfl) (by kernel_rfl) (by kernel_rfl) (by kernel_rfl) (by exact fun _ _ _ h => h) (Or.inl ⟨by rfl, ?_⟩) (by assumption) ?_
            rotate_left
            · (intro w' hSw; (try dsimp only at hSw); go_simp; try with_reducible rfl)
            try simp only [Act.put, List.setIfInBounds_toArray, List.set_cons_zero, List.set_cons_succ]
            refine wpAnyH_take (i := 6) (v := ?_) (by simp only [List.getElem?_toArray, List.getElem?_cons_zero, List.getElem?_cons_succ]; rfl) (by kernel_rfl) (by kernel_rfl) (by kernel_rfl) (by exact fun _ _ _ h => h) (Or.inl ⟨by rfl, ?_⟩) (by assumption) ?_
            rotate_left
            · (intro w' hSw; (try dsimp only at hSw); go_simp; try with_reducible rfl)
            try simp only [Act.put, List.setIfInBounds_toArray, List.set_cons_zero, List.set_cons_succ]
            refine wpAnyH_take (i := 7) (v := ?_) (by simp only [List.getElem?_toArray, List.getElem?_cons_zero, List.getElem?_cons_succ]; rfl) (by kernel_rfl) (by kernel_rfl) (by kernel_rfl) (by exact fun _ _ _ h => h) (Or.inl ⟨by rfl, ?_⟩) (by assumption) ?_
            rotate_left
            · (intro w' hSw; (try dsimp only at hSw); go_simp; try with_reducible rfl)
            try simp only [Act.put, List.setIfInBounds_toArray, List.set_cons_zero, List.set_cons_succ]
            refine wpAnyH_take (i := 8) (v := ?_) (by simp only [List.getElem?_toArray, List.getElem?_cons_zero, List.getElem?_cons_succ]; rfl) (by kernel_rfl) (by kernel_rfl) (by kernel_rfl) (by exact fun _ _ _ h => h) (Or.inl ⟨by rfl, ?_⟩) (by assumption) ?_
            rotate_left
            · (intro w' hSw; (try dsimp only at hSw); go_simp; try with_reducible rfl)
            try simp only [Act.put, List.setIfInBounds_toArray, List.set_cons_zero, List.set_cons_succ]
            refine wpAnyH_done (by kernel_rfl) ?_ _
            -- END EQ
            go_wp2_with fail
            go_returns
            exact ⟨rfl, Below.drew HB.out⟩
        · have HE := Lib.hid he
          have hh := he
          simp only [tokEq, Bool.and_eq_true] at hh
          obtain ⟨h1, h2, h3, h4⟩ := hh
          clear he
          -- REGION EQ
          go_wp2_with fail
          refine wp_region_held_drew (S := fun w' => w'.cell? (a.add (k * 4)) = some (.int .u8 xk) ∧ w'.cell? ⟨(a.add (k * 4)).block, (a.add (k * 4)).off + 1, none⟩ = some (.int .i64 xl) ∧ w'.cell? ⟨(a.add (k * 4)).block, (a.add (k * 4)).off + 2, none⟩ = some (.string xt) ∧ w'.cell? ⟨(a.add (k * 4)).block, (a.add (k * 4)).off + 3, none⟩ = some (.int .i64 xn) ∧ w'.cell? (b.add (k * 4)) = some (.int .u8 yk) ∧ w'.cell? ⟨(b.add (k * 4)).block, (b.add (k * 4)).off + 1, none⟩ = some (.int .i64 yl) ∧ w'.cell? ⟨(b.add (k * 4)).block, (b.add (k * 4)).off + 2, none⟩ = some (.string yt) ∧ w'.cell? ⟨(b.add (k * 4)).block, (b.add (k * 4)).off + 3, none⟩ = some (.int .i64 yn)) (by kernel_rfl) ⟨x0, x1, x2, x3, y0, y1, y2, y3⟩ (fun hHeld => ?_)
          refine wpAnyH_take (i := 0) (v := ?_) (by simp only [List.getElem?_toArray, List.getElem?_cons_zero]; rfl) (by kernel_rfl) (by kernel_rfl) (by kernel_rfl) (by exact fun _ _ _ h => h) (Or.inl ⟨by rfl, ?_⟩) (by assumption) ?_
          rotate_left
          · (intro w' hSw; (try dsimp only at hSw); go_simp; try with_reducible rfl)
          try simp only [Act.put, List.setIfInBounds_toArray, List.set_cons_zero, List.set_cons_succ]
          refine wpAnyH_take (i := 1) (v := ?_) (by simp only [List.getElem?_toArray, List.getElem?_cons_zero, List.getElem?_cons_succ]; rfl) (by kernel_rfl) (by kernel_rfl) (by kernel_rfl) (by exact fun _ _ _ h => h) (Or.inl ⟨by rfl, ?_⟩) (by assumption) ?_
          rotate_left
          · (intro w' hSw; (try dsimp only at hSw); go_simp; try with_reducible rfl)
          try simp only [Act.put, List.setIfInBounds_toArray, List.set_cons_zero, List.set_cons_succ]
          refine wpAnyH_take (i := 2) (v := ?_) (by simp only [List.getElem?_toArray, List.getElem?_cons_zero, List.getElem?_cons_succ]; rfl) (by kernel_rfl) (by kernel_rfl) (by kernel_rfl) (by exact fun _ _ _ h => h) (Or.inl ⟨by rfl, ?_⟩) (by assumption) ?_
          rotate_left
          · (intro w' hSw; (try dsimp only at hSw); go_simp; try with_reducible rfl)
          try simp only [Act.put, List.setIfInBounds_toArray, List.set_cons_zero, List.set_cons_succ]
          refine wpAnyH_take (i := 3) (v := ?_) (by simp only [List.getElem?_toArray, List.getElem?_cons_zero, List.getElem?_cons_succ]; rfl) (by kernel_rfl) (by kernel_rfl) (by kernel_rfl) (by exact fun _ _ _ h => h) (Or.inl ⟨by rfl, ?_⟩) (by assumption) ?_
          rotate_left
          · (intro w' hSw; (try dsimp only at hSw); go_simp; try with_reducible rfl)
          try simp only [Act.put, List.setIfInBounds_toArray, List.set_cons_zero, List.set_cons_succ]
          refine wpAnyH_take (i := 4) (v := ?_) (by simp only [List.getElem?_toArray, List.getElem?_cons_zero, List.getElem?_cons_succ]; rfl) (by kernel_rfl) (by kernel_rfl) (by kernel_rfl) (by exact fun _ _ _ h => h) (Or.inl ⟨by rfl, ?_⟩) (by assumption) ?_
          rotate_left
          · (intro w' hSw; (try dsimp only at hSw); go_simp; try with_reducible rfl)
          try simp only [Act.put, List.setIfInBounds_toArray, List.set_cons_zero, List.set_cons_succ]
          refine wpAnyH_take (i := 5) (v := ?_) (by simp only [List.getElem?_toArray, List.getElem?_cons_zero, List.getElem?_cons_succ]; rfl) (by kernel_rfl) (by kernel_rfl) (by kernel_rfl) (by exact fun _ _ _ h => h) (Or.inl ⟨by rfl, ?_⟩) (by assumption) ?_
          rotate_left
          · (intro w' hSw; (try dsimp only at hSw); go_simp; try with_reducible rfl)
          try simp only [Act.put, List.setIfInBounds_toArray, List.set_cons_zero, List.set_cons_succ]
          refine wpAnyH_take (i := 6) (v := ?_) (by simp only [List.getElem?_toArray, List.getElem?_cons_zero, List.getElem?_cons_succ]; rfl) (by kernel_rfl) (by kernel_rfl) (by kernel_rfl) (by exact fun _ _ _ h => h) (Or.inl ⟨by rfl, ?_⟩) (by assumption) ?_
          rotate_left
          · (intro w' hSw; (try dsimp only at hSw); go_simp; try with_reducible rfl)
          try simp only [Act.put, List.setIfInBounds_toArray, List.set_cons_zero, List.set_cons_succ]
          refine wpAnyH_take (i := 7) (v := ?_) (by simp only [List.getElem?_toArray, List.getElem?_cons_zero, List.getElem?_cons_succ]; rfl) (by kernel_rfl) (by kernel_rfl) (by kernel_rfl) (by exact fun _ _ _ h => h) (Or.inl ⟨by rfl, ?_⟩) (by assumption) ?_
          rotate_left
          · (intro w' hSw; (try dsimp only at hSw); go_simp; try with_reducible rfl)
          try simp only [Act.put, List.setIfInBounds_toArray, List.set_cons_zero, List.set_cons_succ]
          refine wpAnyH_take (i := 8) (v := ?_) (by simp only [List.getElem?_toArray, List.getElem?_cons_zero, List.getElem?_cons_succ]; rfl) (by kernel_rfl) (by kernel_rfl) (by kernel_rfl) (by exact fun _ _ _ h => h) (Or.inl ⟨by rfl, ?_⟩) (by assumption) ?_
          rotate_left
          · (intro w' hSw; (try dsimp only at hSw); go_simp; try with_reducible rfl)
          try simp only [Act.put, List.setIfInBounds_toArray, List.set_cons_zero, List.set_cons_succ]
          refine wpAnyH_done (by kernel_rfl) ?_ _
          -- END EQ
          go_wp2_with fail
          go_roundw
          case rel =>
            refine ⟨k + 1, by omega, by go_num, Below.drew HB.out, fun j x y hj hx hy => ?_⟩
            by_cases e : j = k
            · subst e
              obtain rfl := Option.some.inj (KX.out.symm.trans hx)
              obtain rfl := Option.some.inj (KY.out.symm.trans hy)
              exact HE.out
            · exact HA.out j x y (by omega) hx hy
          case measure => simp [intOf]; omega
      · obtain rfl : k = n := by omega
        obtain rfl : r = true := HR.out.symm.trans (allB_yes _ _ _ (by rw [HX.out.1, HY.out.1]) (fun j x y hj hj' => HA.out j x y (by have := (List.getElem?_eq_some_iff.1 hj).1; have := HX.out.1; omega) hj hj'))
        go_wp2
        go_returns
        exact ⟨rfl, HB.out⟩
  · obtain rfl : r = false := HR.out.symm.trans (allB_len _ _ _ (by rw [HX.out.1, HY.out.1]; exact hnm))
    go_enter Tryd.func26, Tryd.ntmps26
    go_wp2
    go_returns
    exact ⟨rfl, Below.refl _ _⟩

end Go.Proofs.YtalbcgbfefgjfaaDoor
