
/-
  lex.written.
-/
import Derived.Test.YtalbcgbfefgjfaaDoorLexBw
import Derived.Test.YtalbcgbfefgjfaaDoorLexC
import Derived.Deep.RegionHeld3
import Derived.Lib.SmallJoins
import Derived.Sort.Grow
import Derived.Lib.Repeat
import Derived.IntWalk
namespace Go.Proofs.YtalbcgbfefgjfaaDoor
open Go Go.RowKit

/-- The table of the powers of ten. -/
def PowOk (w : World) : Prop := Lib.TabIs Tryd.prog w "internal/strconv.uint64pow10" .u64 Lib.pow10Tab
theorem PowOk.below {w W : World} (h : PowOk w) (hb : Below w.heap.size w W) : PowOk W := Joins.tab_stays (g := 1) (by kernel_rfl) h hb (Nat.le_refl _)

theorem repeatL_one (c : Nat) : Lib.repeatL [32] c = List.replicate c 32 := by
  induction c with
  | zero => rfl
  | succ c ih => rw [Lib.repeatL, ih]; rfl
theorem repeat_any (c : Nat) (w : World) (hc : c ≤ 1000) : Calls Tryd.prog 36 #[.string ⟨#[32]⟩, .int .i64 c] w (GivesStr w (List.replicate c 32)) :=
  (Tryd.strings_Repeat ⟨#[32]⟩ c w (by omega) (by show 1 * c ≤ _; omega)).mono fun e w' ⟨he, hb⟩ => ⟨_, he, by rw [← repeatL_one]; exact str_toList _, hb⟩
theorem below_grow (w : World) (k : Nat) (os : Array Obj) : Below w.heap.size w (Sort.grow (w.drewN k) os) :=
  ⟨rfl, rfl, rfl, by simp [Sort.grow], fun i hi => by simp [Sort.grow, Array.getElem?_append, hi]⟩
theorem format_any (n : Int) (w : World) (h0 : 0 ≤ n) (h1 : n ≤ 9223372036854775807) (ht : PowOk w) : Calls Tryd.prog 37 #[.int .i64 n, .int .i64 10] w (GivesStr w (Lib.itoa n)) :=
  (Tryd.strconv_FormatInt_10 n (by omega) h1 w ht).mono fun e w' ⟨he, k, os, hw⟩ => ⟨_, he, str_toList _, by rw [hw]; exact below_grow w k os⟩

/-- The text of an indented line. -/
def lineL (d : Nat) (xs : List TokR) : List UInt8 := List.replicate (2 * d) 32 ++ joinL xs
theorem joinFrom_front : ∀ (a b : List TokR) (p : Option TokR), (joinFrom p a).length ≤ (joinFrom p (a ++ b)).length
  | [], b, p => by cases p <;> simp [joinFrom]
  | x :: a, b, none => by
    have := joinFrom_front a b (some x)
    simp only [joinFrom, List.cons_append, List.length_append]; omega
  | x :: a, b, some y => by
    have := joinFrom_front a b (some x)
    simp only [joinFrom, List.cons_append, List.length_append]; omega
theorem lineL_front (d : Nat) (xs : List TokR) (k : Nat) : (lineL d (xs.take k)).length ≤ (lineL d xs).length := by
  have := joinFrom_front (xs.take k) (xs.drop k) none
  rw [List.take_append_drop] at this
  simp only [lineL, List.length_append, joinL]; omega

/-- What written hands back. -/
def WrRes (w : World) (L : List UInt8) (e : Ending) (w' : World) : Prop :=
  ∃ q : ByteArray, e = .returned (.tuple #[.string q, .bool (decide (L.length ≤ 256))]) ∧ q.toList = (if L.length ≤ 256 then L else []) ∧ Below w.heap.size w w'

/-- The line's box and the builder. -/
structure WrSt (w : World) (d : Nat) (s : Value) (l : List UInt8) (W : World) : Prop where
  box : W.heap[w.heap.size]? = some (.cells #[.int .i64 d, s] 35 (0, 0))
  bld : Bld (w.heap.size + 1) l W
  bel : Below w.heap.size w W
theorem WrSt.below {w : World} {d : Nat} {s : Value} {l : List UInt8} {X Y : World} (h : WrSt w d s l X) (hb : Below X.heap.size X Y) : WrSt w d s l Y :=
  ⟨(hb.block _ (Array.getElem?_eq_some_iff.1 h.box).1).trans h.box, h.bld.below hb, after h.bel hb⟩
theorem WrSt.write {w : World} {d : Nat} {s : Value} {l m : List UInt8} {X Y : World} (h : WrSt w d s l X) (hb : Below (w.heap.size + 1) X Y) (hl : Bld (w.heap.size + 1) m Y) : WrSt w d s m Y :=
  ⟨(hb.block _ (by omega)).trans h.box, hl, h.bel.trans (hb.mono (by omega))⟩
theorem WrSt.start (w : World) (d : Nat) (s : Value) : WrSt w d s [] ((w.alloc (.cells #[.int .i64 d, s] 35)).alloc (.cells #[.pointer none, .slice none 0 0] 77)) := by
  have h := Bld.new (w.alloc (.cells #[.int .i64 d, s] 35))
  simp only [World.size_alloc] at h
  exact ⟨(Below.heap_alloc _ _ _ (by simp)).trans (World.alloc_heap_new w _), h, by (repeat' (first | (with_reducible exact Below.refl _ _) | (with_reducible assumption) | (with_reducible refine boxed ?_ _) | (with_reducible refine Below.drew ?_) | (with_reducible refine after ?_ (by assumption))))⟩
/-- The round's token. -/
def TkBox (g : Nat) (x : TokR) (W : World) : Prop := W.heap[g]? = some (.cells #[.int .u8 x.k, .int .i64 x.l, .string x.t, .int .i64 x.n] 27 (0, 0))
theorem TkBox.cells {g : Nat} {x : TokR} {W : World} (h : TkBox g x W) : W.cell? ⟨g, 0, none⟩ = some (.int .u8 x.k) ∧ W.cell? ⟨g, 1, none⟩ = some (.int .i64 x.l) ∧ W.cell? ⟨g, 2, none⟩ = some (.string x.t) ∧ W.cell? ⟨g, 3, none⟩ = some (.int .i64 x.n) := by
  refine ⟨?_, ?_, ?_, ?_⟩ <;> simp [World.cell?, show W.heap[g]? = _ from h]
theorem TkBox.below {g : Nat} {x : TokR} {X Y : World} (h : TkBox g x X) (hb : Below X.heap.size X Y) : TkBox g x Y := (hb.block _ (Array.getElem?_eq_some_iff.1 h).1).trans h
theorem TkBox.write {b g : Nat} {x : TokR} {X Y : World} (h : TkBox g x X) (hk : Lib.OthersKept 5 (some b) X Y) (hne : g ≠ b) : TkBox g x Y := others_block hk h hne (by decide)

set_option maxRecDepth 100000 in
set_option maxHeartbeats 8000000 in
theorem written_any (d : Nat) (p : Option Addr) (n cp : Nat) (xs : List TokR) (w : World) (hx : Toks w p n xs) (hd : d ≤ 80) (hn : n ≤ 4611686018427387904) (hm : ∀ x ∈ xs, mayT x = true) (ht : PowOk w) :
    Calls Tryd.prog 55 #[.agg #[.int .i64 d, .slice p n cp]] w (WrRes w (lineL d xs)) := by
  obtain ⟨L, hL⟩ : ∃ L, lineL d xs = L := ⟨_, rfl⟩
  rw [hL]
  have HL := Lib.hid hL
  have HX := Lib.hid hx
  have HM := Lib.hid hm
  have HT := Lib.hid ht
  have ST0 := Lib.hid (WrSt.start w d (.slice p n cp))
  clear hL hx hm ht
  go_enter Tryd.func55, Tryd.ntmps55
  go_wp2_with (first
    | (go_at_call 36; refine (repeat_any (2 * d) _ (by omega)).mono ?_; rintro e w1 ⟨q, rfl, hq, hb1⟩; have hqs : q.size = 2 * d := (by rw [← length_toList, hq]; simp); have HQ := Lib.hid hq; have ST1 := Lib.hid (ST0.out.below hb1); clear hq hb1)
    | (go_at_call 59; refine (bld_string _ _ _ _ ST1.out.bld (by simp; omega)).mono ?_; rintro e w2 ⟨rfl, hb2, hbel2, _⟩; rw [List.nil_append, HQ.out] at hb2; have ST2 := Lib.hid (ST1.out.write hbel2 hb2); have hbx := cell_of_block2 ST2.out.box; obtain ⟨lb0, lb⟩ := hbx; clear hb2 hbel2))
  go_loopw [15] (fun i wr => ∃ k : Nat, k ≤ n ∧ i = .int .i64 k ∧ WrSt w d (.slice p n cp) (lineL d (xs.take k)) wr ∧ (lineL d (xs.take k)).length ≤ 256) (fun i _ => n - (intOf i).toNat)
  case atStart => exact ⟨0, Nat.zero_le _, rfl, by rw [lineL, joinL_zero, List.append_nil]; exact ST2.out, by rw [lineL, joinL_zero]; simp; omega⟩
  case round =>
    obtain ⟨k, hk, rfl, hst, h256⟩ := hrel
    have ST := Lib.hid hst
    have H2 := Lib.hid h256
    clear hst h256 lb lb0
    by_cases hlt : k < n
    · obtain ⟨x, hx⟩ := tok_some HX.out.1 hlt
      obtain ⟨a, rfl, hax⟩ := HX.out.2 k x hx
      have hmx := HM.out x (List.mem_of_getElem? hx)
      have KX := Lib.hid hx
      have MX := Lib.hid hmx
      have hlen := tokText_len hmx
      obtain ⟨x0, x1, x2, x3⟩ := hax.below ST.out.bel
      have hblx := World.block_lt_of_cell? _ _ x0
      obtain ⟨lb0, lb⟩ := cell_of_block2 ST.out.box
      clear hx hmx hax
      obtain ⟨xk, xl, xt, xn⟩ := x
      dsimp only at x0 x1 x2 x3
      have hal : Below wr.heap.size wr (wr.alloc (.cells #[.int .u8 xk, .int .i64 xl, .string xt, .int .i64 xn] 27)) := (Below.refl _ _).alloc (Nat.le_refl _) _
      have hT6 : TkBox wr.heap.size ⟨xk, xl, xt, xn⟩ (wr.alloc (.cells #[.int .u8 xk, .int .i64 xl, .string xt, .int .i64 xn] 27)) := World.alloc_heap_new wr _
      have ST6 := Lib.hid (ST.out.below hal)
      have T6 := Lib.hid hT6
      have hgb : wr.heap.size ≠ w.heap.size + 1 := by have := ST.out.bld.lt; omega
      clear hal hT6
      by_cases h0 : k = 0
      · subst h0
        have ea : a.add (0 * 4) = a := by simp [Addr.add]
        rw [ea] at x0 x1 x2 x3 hblx
        clear ea
        have HN : Hid (lineL d (xs.take (0 + 1)) = lineL d (xs.take 0) ++ tokText ⟨xk, xl, xt, xn⟩) := by
          show _ = _
          rw [lineL, lineL, joinL_first KX.out, joinL_zero, List.append_nil]
        obtain ⟨t0, t1, t2, t3⟩ := T6.out.cells
        go_wp2_with fail
        obtain ⟨_, lb⟩ := cell_of_block2 ST6.out.box
        refine wp_region_held_drew (S := fun w' => w'.cell? ⟨w.heap.size, 1, none⟩ = some (.slice (some a) n cp) ∧ w'.cell? ⟨wr.heap.size, 0, none⟩ = some (.int .u8 xk) ∧ w'.cell? ⟨wr.heap.size, 1, none⟩ = some (.int .i64 xl) ∧ w'.cell? ⟨wr.heap.size, 2, none⟩ = some (.string xt) ∧ w'.cell? ⟨wr.heap.size, 3, none⟩ = some (.int .i64 xn)) (by kernel_rfl) (by exact ⟨lb, t0, t1, t2, t3⟩) (fun hHeld => ?_)
        refine wpAnyH_take (i := 0) (v := ?_) (by simp only [List.getElem?_toArray, List.getElem?_cons_zero]; rfl) (by kernel_rfl) (by kernel_rfl) (by kernel_rfl) (by exact fun _ _ _ h => h) (Or.inl ⟨by rfl, ?_⟩) (by assumption) ?_
        rotate_left
        · (intro w' hSw; (try dsimp only at hSw); go_simp; try with_reducible rfl)
        try simp only [Act.put, List.setIfInBounds_toArray, List.set_cons_zero, List.set_cons_succ]
        refine wpAnyH_take (i := 1) (v := ?_) (by simp only [List.getElem?_toArray, List.getElem?_cons_zero, List.getElem?_cons_succ]; rfl) (by kernel_rfl) (by kernel_rfl) (by kernel_rfl) (by exact fun _ _ _ h => h) (Or.inl ⟨by rfl, ?_⟩) (by assumption) ?_
        rotate_left
        · (intro w' hSw; (try dsimp only at hSw); go_simp; try with_reducible rfl)
        try simp only [Act.put, List.setIfInBounds_toArray, List.set_cons_zero, List.set_cons_succ]
        refine wpAnyH_take (i := 2) (v := ?_) (by simp only [List.getElem?_toArray, List.getElem?_cons_zero, List.getElem?_cons_succ]; rfl) (by kernel_rfl) (by kernel_rfl) (by kernel_rfl) (by exact fun _ _ _ h => h) (Or.inl ⟨by rfl, ?_⟩) (by assumption) ?_
        rotate_left
        · (intro w' hSw; (try dsimp only at hSw); go_simp; try with_reducible rfl)
        try simp only [Act.put, List.setIfInBounds_toArray, List.set_cons_zero, List.set_cons_succ]
        refine wpAnyH_take (i := 3) (v := undef) (by simp only [List.getElem?_toArray, List.getElem?_cons_zero, List.getElem?_cons_succ]; rfl) (by kernel_rfl) (by kernel_rfl) (by kernel_rfl) (by exact fun _ _ _ h => h) (Or.inr ⟨by rfl, rfl⟩) (by assumption) ?_
        try simp only [Act.put, List.setIfInBounds_toArray, List.set_cons_zero, List.set_cons_succ]
        refine wpAnyH_take (i := 4) (v := undef) (by simp only [List.getElem?_toArray, List.getElem?_cons_zero, List.getElem?_cons_succ]; rfl) (by kernel_rfl) (by kernel_rfl) (by kernel_rfl) (by exact fun _ _ _ h => h) (Or.inr ⟨by rfl, rfl⟩) (by assumption) ?_
        try simp only [Act.put, List.setIfInBounds_toArray, List.set_cons_zero, List.set_cons_succ]
        refine wpAnyH_take (i := 5) (v := undef) (by simp only [List.getElem?_toArray, List.getElem?_cons_zero, List.getElem?_cons_succ]; rfl) (by kernel_rfl) (by kernel_rfl) (by kernel_rfl) (by exact fun _ _ _ h => h) (Or.inr ⟨by rfl, rfl⟩) (by assumption) ?_
        try simp only [Act.put, List.setIfInBounds_toArray, List.set_cons_zero, List.set_cons_succ]
        refine wpAnyH_take (i := 6) (v := undef) (by simp only [List.getElem?_toArray, List.getElem?_cons_zero, List.getElem?_cons_succ]; rfl) (by kernel_rfl) (by kernel_rfl) (by kernel_rfl) (by exact fun _ _ _ h => h) (Or.inr ⟨by rfl, rfl⟩) (by assumption) ?_
        try simp only [Act.put, List.setIfInBounds_toArray, List.set_cons_zero, List.set_cons_succ]
        refine wpAnyH_take (i := 7) (v := undef) (by simp only [List.getElem?_toArray, List.getElem?_cons_zero, List.getElem?_cons_succ]; rfl) (by kernel_rfl) (by kernel_rfl) (by kernel_rfl) (by exact fun _ _ _ h => h) (Or.inr ⟨by rfl, rfl⟩) (by assumption) ?_
        try simp only [Act.put, List.setIfInBounds_toArray, List.set_cons_zero, List.set_cons_succ]
        refine wpAnyH_take (i := 8) (v := undef) (by simp only [List.getElem?_toArray, List.getElem?_cons_zero, List.getElem?_cons_succ]; rfl) (by kernel_rfl) (by kernel_rfl) (by kernel_rfl) (by exact fun _ _ _ h => h) (Or.inr ⟨by rfl, rfl⟩) (by assumption) ?_
        try simp only [Act.put, List.setIfInBounds_toArray, List.set_cons_zero, List.set_cons_succ]
        refine wpAnyH_take (i := 9) (v := undef) (by simp only [List.getElem?_toArray, List.getElem?_cons_zero, List.getElem?_cons_succ]; rfl) (by kernel_rfl) (by kernel_rfl) (by kernel_rfl) (by exact fun _ _ _ h => h) (Or.inr ⟨by rfl, rfl⟩) (by assumption) ?_
        try simp only [Act.put, List.setIfInBounds_toArray, List.set_cons_zero, List.set_cons_succ]
        refine wpAnyH_take (i := 10) (v := undef) (by simp only [List.getElem?_toArray, List.getElem?_cons_zero, List.getElem?_cons_succ]; rfl) (by kernel_rfl) (by kernel_rfl) (by kernel_rfl) (by exact fun _ _ _ h => h) (Or.inr ⟨by rfl, rfl⟩) (by assumption) ?_
        try simp only [Act.put, List.setIfInBounds_toArray, List.set_cons_zero, List.set_cons_succ]
        refine wpAnyH_take (i := 11) (v := ?_) (by simp only [List.getElem?_toArray, List.getElem?_cons_zero, List.getElem?_cons_succ]; rfl) (by kernel_rfl) (by kernel_rfl) (by kernel_rfl) (by exact fun _ _ _ h => h) (Or.inl ⟨by rfl, ?_⟩) (by assumption) ?_
        rotate_left
        · (intro w' hSw; (try dsimp only at hSw); go_simp; try with_reducible rfl)
        try simp only [Act.put, List.setIfInBounds_toArray, List.set_cons_zero, List.set_cons_succ]
        refine wpAnyH_done (by kernel_rfl) ?_ _
        clear hHeld
        have hdr := Below.drew (Below.refl (wr.alloc (.cells #[.int .u8 xk, .int .i64 xl, .string xt, .int .i64 xn] 27)).heap.size (wr.alloc (.cells #[.int .u8 xk, .int .i64 xl, .string xt, .int .i64 xn] 27)))
        have ST7 := Lib.hid (ST6.out.below hdr)
        have T7 := Lib.hid (T6.out.below hdr)
        clear hdr t0 t1 t2 t3 lb
        have hcur : (lineL d (xs.take 0)).length ≤ 257 := by have := H2.out; omega
        have HCU := Lib.hid hcur
        obtain ⟨M, hM⟩ : ∃ M, (lineL d (xs.take (0 + 1))).length = M := ⟨_, rfl⟩
        have HM2 := Lib.hid hM
        have hML : M ≤ L.length := by rw [← hM, ← HL.out]; exact lineL_front d xs (0 + 1)
        clear hM hcur
        obtain ⟨t0, t1, t2, t3⟩ := T7.out.cells
        by_cases hk3 : xk = 3
        · subst hk3
          obtain ⟨hi, hn0, hn1⟩ := tokText_int rfl MX.out
          dsimp only at hn0 hn1 hi
          have HIT := Lib.hid hi
          have hn63 : xn ≤ 9223372036854775807 := by omega
          clear hi
          by_cases hMb : 256 < M
          all_goals
            go_wp2_with (first
              | (go_at_call 37; refine (format_any _ _ hn0 hn63 (HT.out.below ST7.out.bel)).mono ?_; rintro e w8 ⟨q8, rfl, hq8, hb8⟩; have hq8s : q8.size ≤ 32 := (by rw [← length_toList, hq8, ← HIT.out]; exact hlen); rw [← HIT.out] at hq8; have HQ8 := Lib.hid hq8; have ST8 := Lib.hid (ST7.out.below hb8); clear hq8 hb8)
              | (go_at_call 59; refine (bld_string _ _ _ _ ST8.out.bld (by have := HCU.out; omega)).mono ?_; rintro e w9 ⟨rfl, hb9, hbel9, _⟩; rw [HQ8.out, ← HN.out] at hb9; have ST9 := Lib.hid (ST8.out.write hbel9 hb9); clear hb9 hbel9)
              | (go_at_call 58; refine (bld_len _ _ _ ST9.out.bld).mono ?_; rintro e w10 ⟨rfl, rfl⟩; rw [HM2.out]))
          · go_returns
            have hLb : ¬ L.length ≤ 256 := by omega
            exact ⟨⟨#[]⟩, by rw [decide_eq_false hLb]; rfl, by rw [if_neg hLb]; exact str_toList [], ST9.out.bel⟩
          · go_roundw
            case rel => exact ⟨0 + 1, by omega, by go_num, ST9.out, by have := HM2.out; omega⟩
            case measure => simp [intOf]; omega
        · have hkb : (xk == 3) = false := beq_eq_false_iff_ne.2 hk3
          have HIT := Lib.hid (tokText_str (x := ⟨xk, xl, xt, xn⟩) hk3)
          have hxs : xt.size ≤ 32 := by rw [← length_toList, ← HIT.out]; exact hlen
          clear hk3
          by_cases hMb : 256 < M
          all_goals
            go_wp2_with (first
              | (go_at_call 59; refine (bld_string _ _ _ _ ST7.out.bld (by have := HCU.out; omega)).mono ?_; rintro e w9 ⟨rfl, hb9, hbel9, _⟩; rw [← HIT.out, ← HN.out] at hb9; have ST9 := Lib.hid (ST7.out.write hbel9 hb9); clear hb9 hbel9)
              | (go_at_call 58; refine (bld_len _ _ _ ST9.out.bld).mono ?_; rintro e w10 ⟨rfl, rfl⟩; rw [HM2.out]))
          · go_returns
            have hLb : ¬ L.length ≤ 256 := by omega
            exact ⟨⟨#[]⟩, by rw [decide_eq_false hLb]; rfl, by rw [if_neg hLb]; exact str_toList [], ST9.out.bel⟩
          · go_roundw
            case rel => exact ⟨0 + 1, by omega, by go_num, ST9.out, by have := HM2.out; omega⟩
            case measure => simp [intOf]; omega
      · obtain ⟨j, rfl⟩ : ∃ j, k = j + 1 := ⟨k - 1, by omega⟩
        obtain ⟨y, hy⟩ := tok_some HX.out.1 (show j < n by omega)
        obtain ⟨a', ha', hay⟩ := HX.out.2 j y hy
        obtain rfl : a = a' := Option.some.inj ha'
        have hmy := HM.out y (List.mem_of_getElem? hy)
        obtain ⟨y0, y1, y2, y3⟩ := hay.below ST6.out.bel
        obtain ⟨t0, t1, t2, t3⟩ := T6.out.cells
        have HN := Lib.hid (show lineL d (xs.take (j + 1 + 1)) = lineL d (xs.take (j + 1)) ++ sepL y ⟨xk, xl, xt, xn⟩ ++ tokText ⟨xk, xl, xt, xn⟩ by
          rw [lineL, lineL, joinL_next hy KX.out]; simp)
        clear hy hay ha' hmy
        obtain ⟨yk, yl, yt, yn⟩ := y
        dsimp only at y0 y1 y2 y3
        obtain ⟨r, hr⟩ : ∃ r, apartV yt xt = r := ⟨_, rfl⟩
        have HC := Lib.hid hr
        clear hr
        go_wp2_with fail
        obtain ⟨_, lb⟩ := cell_of_block2 ST6.out.box
        have hwj : IntKind.i64.wrap (j : Int) = j := IntWalk.i64_in _ (by omega)
        have hjn : (j : Int) < n := by omega
        refine wp_region_held_drew (S := fun w' => w'.cell? ⟨w.heap.size, 1, none⟩ = some (.slice (some a) n cp) ∧ w'.cell? ⟨wr.heap.size, 0, none⟩ = some (.int .u8 xk) ∧ w'.cell? ⟨wr.heap.size, 1, none⟩ = some (.int .i64 xl) ∧ w'.cell? ⟨wr.heap.size, 2, none⟩ = some (.string xt) ∧ w'.cell? ⟨wr.heap.size, 3, none⟩ = some (.int .i64 xn) ∧ w'.cell? (a.add (j * 4)) = some (.int .u8 yk) ∧ w'.cell? ⟨(a.add (j * 4)).block, (a.add (j * 4)).off + 1, none⟩ = some (.int .i64 yl) ∧ w'.cell? ⟨(a.add (j * 4)).block, (a.add (j * 4)).off + 2, none⟩ = some (.string yt) ∧ w'.cell? ⟨(a.add (j * 4)).block, (a.add (j * 4)).off + 3, none⟩ = some (.int .i64 yn)) (by kernel_rfl) (by exact ⟨lb, t0, t1, t2, t3, y0, y1, y2, y3⟩) (fun hHeld => ?_)
        refine wpAnyH_take (i := 0) (v := ?_) (by simp only [List.getElem?_toArray, List.getElem?_cons_zero]; rfl) (by kernel_rfl) (by kernel_rfl) (by kernel_rfl) (by exact fun _ _ _ h => h) (Or.inl ⟨by rfl, ?_⟩) (by assumption) ?_
        rotate_left
        · (intro w' hSw; (try dsimp only at hSw); go_simp; try with_reducible rfl)
        try simp only [Act.put, List.setIfInBounds_toArray, List.set_cons_zero, List.set_cons_succ]
        refine wpAnyH_take (i := 1) (v := ?_) (by simp only [List.getElem?_toArray, List.getElem?_cons_zero, List.getElem?_cons_succ]; rfl) (by kernel_rfl) (by kernel_rfl) (by kernel_rfl) (by exact fun _ _ _ h => h) (Or.inl ⟨by rfl, ?_⟩) (by assumption) ?_
        rotate_left
        · (intro w' hSw; (try dsimp only at hSw); go_simp; try with_reducible rfl)
        try simp only [Act.put, List.setIfInBounds_toArray, List.set_cons_zero, List.set_cons_succ]
        refine wpAnyH_take (i := 2) (v := ?_) (by simp only [List.getElem?_toArray, List.getElem?_cons_zero, List.getElem?_cons_succ]; rfl) (by kernel_rfl) (by kernel_rfl) (by kernel_rfl) (by exact fun _ _ _ h => h) (Or.inl ⟨by rfl, ?_⟩) (by assumption) ?_
        rotate_left
        · (intro w' hSw; (try dsimp only at hSw); go_simp; try with_reducible rfl)
        try simp only [Act.put, List.setIfInBounds_toArray, List.set_cons_zero, List.set_cons_succ]
        refine wpAnyH_take (i := 3) (v := ?_) (by simp only [List.getElem?_toArray, List.getElem?_cons_zero, List.getElem?_cons_succ]; rfl) (by kernel_rfl) (by kernel_rfl) (by kernel_rfl) (by exact fun _ _ _ h => h) (Or.inl ⟨by rfl, ?_⟩) (by assumption) ?_
        rotate_left
        · (intro w' hSw; (try dsimp only at hSw); go_simp; try with_reducible rfl)
        try simp only [Act.put, List.setIfInBounds_toArray, List.set_cons_zero, List.set_cons_succ]
        refine wpAnyH_take (i := 4) (v := ?_) (by simp only [List.getElem?_toArray, List.getElem?_cons_zero, List.getElem?_cons_succ]; rfl) (by kernel_rfl) (by kernel_rfl) (by kernel_rfl) (by exact fun _ _ _ h => h) (Or.inl ⟨by rfl, ?_⟩) (by assumption) ?_
        rotate_left
        · (intro w' hSw; (try dsimp only at hSw); go_simp; try with_reducible rfl)
        try simp only [Act.put, List.setIfInBounds_toArray, List.set_cons_zero, List.set_cons_succ]
        refine wpAnyH_take (i := 5) (v := ?_) (by simp only [List.getElem?_toArray, List.getElem?_cons_zero, List.getElem?_cons_succ]; rfl) (by kernel_rfl) (by kernel_rfl) (by kernel_rfl) (by exact fun _ _ _ h => h) (Or.inl ⟨by rfl, ?_⟩) (by assumption) ?_
        rotate_left
        · (intro w' hSw; (try dsimp only at hSw); go_simp; try with_reducible rfl)
        try simp only [Act.put, List.setIfInBounds_toArray, List.set_cons_zero, List.set_cons_succ]
        refine wpAnyH_take (i := 6) (v := ?_) (by simp only [List.getElem?_toArray, List.getElem?_cons_zero, List.getElem?_cons_succ]; rfl) (by kernel_rfl) (by kernel_rfl) (by kernel_rfl) (by exact fun _ _ _ h => h) (Or.inl ⟨by rfl, ?_⟩) (by assumption) ?_
        rotate_left
        · (intro w' hSw; (try dsimp only at hSw); go_simp; try with_reducible rfl)
        try simp only [Act.put, List.setIfInBounds_toArray, List.set_cons_zero, List.set_cons_succ]
        refine wpAnyH_take (i := 7) (v := ?_) (by simp only [List.getElem?_toArray, List.getElem?_cons_zero, List.getElem?_cons_succ]; rfl) (by kernel_rfl) (by kernel_rfl) (by kernel_rfl) (by exact fun _ _ _ h => h) (Or.inl ⟨by rfl, ?_⟩) (by assumption) ?_
        rotate_left
        · (intro w' hSw; (try dsimp only at hSw); go_simp; try with_reducible rfl)
        try simp only [Act.put, List.setIfInBounds_toArray, List.set_cons_zero, List.set_cons_succ]
        refine wpAnyH_take (i := 8) (v := ?_) (by simp only [List.getElem?_toArray, List.getElem?_cons_zero, List.getElem?_cons_succ]; rfl) (by kernel_rfl) (by kernel_rfl) (by kernel_rfl) (by exact fun _ _ _ h => h) (Or.inl ⟨by rfl, ?_⟩) (by assumption) ?_
        rotate_left
        · (intro w' hSw; (try dsimp only at hSw); go_simp; try with_reducible rfl)
        try simp only [Act.put, List.setIfInBounds_toArray, List.set_cons_zero, List.set_cons_succ]
        refine wpAnyH_take (i := 9) (v := ?_) (by simp only [List.getElem?_toArray, List.getElem?_cons_zero, List.getElem?_cons_succ]; rfl) (by kernel_rfl) (by kernel_rfl) (by kernel_rfl) (by exact fun _ _ _ h => h) (Or.inl ⟨by rfl, ?_⟩) (by assumption) ?_
        rotate_left
        · (intro w' hSw; (try dsimp only at hSw); go_simp; try with_reducible rfl)
        try simp only [Act.put, List.setIfInBounds_toArray, List.set_cons_zero, List.set_cons_succ]
        refine wpAnyH_ready (rs := [10]) (by kernel_rfl) (by simp) ?_
        refine AllReadyH.cons (by simp only [List.getElem?_toArray, List.getElem?_cons_zero, List.getElem?_cons_succ]; rfl) (fun K hK => ?_) (AllReadyH.nil)
        go_simp
        refine (apart_any _ _ _ _ _ _ _ _ _).mono ?_; rw [HC.out]; rintro e w5 ⟨rfl, hb⟩
        go_wp2_with fail
        refine hK.out _ _ ⟨keepA' hb hHeld.1, keepA' hb hHeld.2.1, keepA' hb hHeld.2.2.1, keepA' hb hHeld.2.2.2.1, keepA' hb hHeld.2.2.2.2.1, keepA' hb hHeld.2.2.2.2.2.1, keepA' hb hHeld.2.2.2.2.2.2.1, keepA' hb hHeld.2.2.2.2.2.2.2.1, keepA' hb hHeld.2.2.2.2.2.2.2.2⟩ (fun hNext => ?_)
        clear hHeld hK K
        have hHeld := hNext
        clear hNext
        try simp only [Act.put, List.setIfInBounds_toArray, List.set_cons_zero, List.set_cons_succ]
        have WB0 := Lib.hid (after (Below.drew (Below.refl (wr.alloc (.cells #[.int .u8 xk, .int .i64 xl, .string xt, .int .i64 xn] 27)).heap.size (wr.alloc (.cells #[.int .u8 xk, .int .i64 xl, .string xt, .int .i64 xn] 27)))) hb)
        clear hb
        refine wpAnyH_take (i := 11) (v := ?_) (by simp only [List.getElem?_toArray, List.getElem?_cons_zero, List.getElem?_cons_succ]; rfl) (by kernel_rfl) (by kernel_rfl) (by kernel_rfl) (by exact fun _ _ _ h => h) (Or.inl ⟨by rfl, ?_⟩) (by assumption) ?_
        rotate_left
        · (intro w' hSw; (try dsimp only at hSw); go_simp; try with_reducible rfl)
        try simp only [Act.put, List.setIfInBounds_toArray, List.set_cons_zero, List.set_cons_succ]
        refine wpAnyH_done (by kernel_rfl) ?_ _
        clear hHeld
        have ST7 := Lib.hid (ST6.out.below WB0.out)
        have T7 := Lib.hid (T6.out.below WB0.out)
        clear t0 t1 t2 t3 y0 y1 y2 y3 lb WB0
        cases r
        · have HN := Lib.hid (show lineL d (xs.take (j + 1 + 1)) = lineL d (xs.take (j + 1)) ++ tokText ⟨xk, xl, xt, xn⟩ by
            rw [HN.out, sepL, if_neg (by rw [HC.out]; simp), List.append_nil])
          have hcur : (lineL d (xs.take (j + 1))).length ≤ 257 := by have := H2.out; omega
          have HCU := Lib.hid hcur
          obtain ⟨M, hM⟩ : ∃ M, (lineL d (xs.take ((j + 1) + 1))).length = M := ⟨_, rfl⟩
          have HM2 := Lib.hid hM
          have hML : M ≤ L.length := by rw [← hM, ← HL.out]; exact lineL_front d xs ((j + 1) + 1)
          clear hM hcur
          obtain ⟨t0, t1, t2, t3⟩ := T7.out.cells
          by_cases hk3 : xk = 3
          · subst hk3
            obtain ⟨hi, hn0, hn1⟩ := tokText_int rfl MX.out
            dsimp only at hn0 hn1 hi
            have HIT := Lib.hid hi
            have hn63 : xn ≤ 9223372036854775807 := by omega
            clear hi
            by_cases hMb : 256 < M
            all_goals
              go_wp2_with (first
                | (go_at_call 37; refine (format_any _ _ hn0 hn63 (HT.out.below ST7.out.bel)).mono ?_; rintro e w8 ⟨q8, rfl, hq8, hb8⟩; have hq8s : q8.size ≤ 32 := (by rw [← length_toList, hq8, ← HIT.out]; exact hlen); rw [← HIT.out] at hq8; have HQ8 := Lib.hid hq8; have ST8 := Lib.hid (ST7.out.below hb8); clear hq8 hb8)
                | (go_at_call 59; refine (bld_string _ _ _ _ ST8.out.bld (by have := HCU.out; omega)).mono ?_; rintro e w9 ⟨rfl, hb9, hbel9, _⟩; rw [HQ8.out, ← HN.out] at hb9; have ST9 := Lib.hid (ST8.out.write hbel9 hb9); clear hb9 hbel9)
                | (go_at_call 58; refine (bld_len _ _ _ ST9.out.bld).mono ?_; rintro e w10 ⟨rfl, rfl⟩; rw [HM2.out]))
            · go_returns
              have hLb : ¬ L.length ≤ 256 := by omega
              exact ⟨⟨#[]⟩, by rw [decide_eq_false hLb]; rfl, by rw [if_neg hLb]; exact str_toList [], ST9.out.bel⟩
            · go_roundw
              case rel => exact ⟨(j + 1) + 1, by omega, by go_num, ST9.out, by have := HM2.out; omega⟩
              case measure => simp [intOf]; omega
          · have hkb : (xk == 3) = false := beq_eq_false_iff_ne.2 hk3
            have HIT := Lib.hid (tokText_str (x := ⟨xk, xl, xt, xn⟩) hk3)
            have hxs : xt.size ≤ 32 := by rw [← length_toList, ← HIT.out]; exact hlen
            clear hk3
            by_cases hMb : 256 < M
            all_goals
              go_wp2_with (first
                | (go_at_call 59; refine (bld_string _ _ _ _ ST7.out.bld (by have := HCU.out; omega)).mono ?_; rintro e w9 ⟨rfl, hb9, hbel9, _⟩; rw [← HIT.out, ← HN.out] at hb9; have ST9 := Lib.hid (ST7.out.write hbel9 hb9); clear hb9 hbel9)
                | (go_at_call 58; refine (bld_len _ _ _ ST9.out.bld).mono ?_; rintro e w10 ⟨rfl, rfl⟩; rw [HM2.out]))
            · go_returns
              have hLb : ¬ L.length ≤ 256 := by omega
              exact ⟨⟨#[]⟩, by rw [decide_eq_false hLb]; rfl, by rw [if_neg hLb]; exact str_toList [], ST9.out.bel⟩
            · go_roundw
              case rel => exact ⟨(j + 1) + 1, by omega, by go_num, ST9.out, by have := HM2.out; omega⟩
              case measure => simp [intOf]; omega
        · have HN := Lib.hid (show lineL d (xs.take (j + 1 + 1)) = lineL d (xs.take (j + 1)) ++ [32] ++ tokText ⟨xk, xl, xt, xn⟩ by
            rw [HN.out, sepL, if_pos HC.out])
          have hcur : (lineL d (xs.take (j + 1)) ++ [32]).length ≤ 257 := by have := H2.out; simp; omega
          have HCU := Lib.hid hcur
          obtain ⟨M, hM⟩ : ∃ M, (lineL d (xs.take ((j + 1) + 1))).length = M := ⟨_, rfl⟩
          have HM2 := Lib.hid hM
          have hML : M ≤ L.length := by rw [← hM, ← HL.out]; exact lineL_front d xs ((j + 1) + 1)
          clear hM hcur
          obtain ⟨t0, t1, t2, t3⟩ := T7.out.cells
          by_cases hk3 : xk = 3
          · subst hk3
            obtain ⟨hi, hn0, hn1⟩ := tokText_int rfl MX.out
            dsimp only at hn0 hn1 hi
            have HIT := Lib.hid hi
            have hn63 : xn ≤ 9223372036854775807 := by omega
            clear hi
            by_cases hMb : 256 < M
            all_goals
              go_wp2_with (first
                | (go_at_call 60; refine (bld_byte _ _ 32 _ ST7.out.bld (by have := H2.out; omega)).mono ?_; rintro e w7 ⟨rfl, hb7, hbel7, ho7⟩; have ST7 := Lib.hid (ST7.out.write hbel7 hb7); have T7 := Lib.hid (T7.out.write ho7 hgb); clear hb7 hbel7 ho7 t0 t1 t2 t3; obtain ⟨t0, t1, t2, t3⟩ := T7.out.cells)
                | (go_at_call 37; refine (format_any _ _ hn0 hn63 (HT.out.below ST7.out.bel)).mono ?_; rintro e w8 ⟨q8, rfl, hq8, hb8⟩; have hq8s : q8.size ≤ 32 := (by rw [← length_toList, hq8, ← HIT.out]; exact hlen); rw [← HIT.out] at hq8; have HQ8 := Lib.hid hq8; have ST8 := Lib.hid (ST7.out.below hb8); clear hq8 hb8)
                | (go_at_call 59; refine (bld_string _ _ _ _ ST8.out.bld (by have := HCU.out; omega)).mono ?_; rintro e w9 ⟨rfl, hb9, hbel9, _⟩; rw [HQ8.out, ← HN.out] at hb9; have ST9 := Lib.hid (ST8.out.write hbel9 hb9); clear hb9 hbel9)
                | (go_at_call 58; refine (bld_len _ _ _ ST9.out.bld).mono ?_; rintro e w10 ⟨rfl, rfl⟩; rw [HM2.out]))
            · go_returns
              (have hLb : ¬ L.length ≤ 256 := by omega); exact ⟨⟨#[]⟩, by rw [decide_eq_false hLb]; rfl, by rw [if_neg hLb]; exact str_toList [], ST9.out.bel⟩
            · go_roundw
              case rel => exact ⟨(j + 1) + 1, by omega, by go_num, ST9.out, by have := HM2.out; omega⟩
              case measure => simp [intOf]; omega
          · have hkb : (xk == 3) = false := beq_eq_false_iff_ne.2 hk3
            have HIT := Lib.hid (tokText_str (x := ⟨xk, xl, xt, xn⟩) hk3)
            have hxs : xt.size ≤ 32 := by rw [← length_toList, ← HIT.out]; exact hlen
            clear hk3
            by_cases hMb : 256 < M
            all_goals
              go_wp2_with (first
                | (go_at_call 60; refine (bld_byte _ _ 32 _ ST7.out.bld (by have := H2.out; omega)).mono ?_; rintro e w7 ⟨rfl, hb7, hbel7, ho7⟩; have ST7 := Lib.hid (ST7.out.write hbel7 hb7); have T7 := Lib.hid (T7.out.write ho7 hgb); clear hb7 hbel7 ho7 t0 t1 t2 t3; obtain ⟨t0, t1, t2, t3⟩ := T7.out.cells)
                | (go_at_call 59; refine (bld_string _ _ _ _ ST7.out.bld (by have := HCU.out; omega)).mono ?_; rintro e w9 ⟨rfl, hb9, hbel9, _⟩; rw [← HIT.out, ← HN.out] at hb9; have ST9 := Lib.hid (ST7.out.write hbel9 hb9); clear hb9 hbel9)
                | (go_at_call 58; refine (bld_len _ _ _ ST9.out.bld).mono ?_; rintro e w10 ⟨rfl, rfl⟩; rw [HM2.out]))
            · go_returns
              (have hLb : ¬ L.length ≤ 256 := by omega); exact ⟨⟨#[]⟩, by rw [decide_eq_false hLb]; rfl, by rw [if_neg hLb]; exact str_toList [], ST9.out.bel⟩
            · go_roundw
              case rel => exact ⟨(j + 1) + 1, by omega, by go_num, ST9.out, by have := HM2.out; omega⟩
              case measure => simp [intOf]; omega
    · obtain rfl : k = n := by omega
      have hall : xs.take k = xs := List.take_of_length_le (by rw [HX.out.1]; exact Nat.le_refl _)
      have hLL : lineL d (xs.take k) = L := by rw [hall]; exact HL.out
      have h256 := H2.out
      have hst := ST.out
      rw [hLL] at h256 hst
      have ST' := Lib.hid hst
      have H2' := Lib.hid h256
      clear hall hLL h256 hst
      go_wp2_with (go_at_call 61; refine (bld_text _ _ _ ST'.out.bld).mono ?_; rintro e w2 ⟨rfl, hb2⟩; have HB := Lib.hid (ST'.out.bel.trans (hb2.mono (by omega))); clear hb2)
      go_returns
      exact ⟨str L, by rw [decide_eq_true H2'.out]; rfl, by rw [if_pos H2'.out]; exact str_toList _, HB.out⟩
end Go.Proofs.YtalbcgbfefgjfaaDoor
