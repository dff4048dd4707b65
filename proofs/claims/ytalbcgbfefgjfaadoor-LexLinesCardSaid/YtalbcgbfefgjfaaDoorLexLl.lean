
/-
  THE LAW LexLines: its walk.
-/
import Derived.Test.YtalbcgbfefgjfaaDoorLexLa
import Derived.Test.YtalbcgbfefgjfaaDoorLexLt
import Derived.RegionTactic
import Derived.Deep.RegionHeld3
namespace Go.Proofs.YtalbcgbfefgjfaaDoor
open Go Go.RowKit

/-- A line that may be written. -/
def LineR.fine (z : LineR) : Prop := (0 ≤ z.d ∧ z.d ≤ 80) ∧ (∀ x ∈ z.xs, mayT x = true ∧ x.t.size ≤ 9223372036854775807) ∧ z.xs.length = z.n ∧ z.n ≤ 400
theorem mod_range (d : Int) : 0 ≤ (d.tmod 81 + 81).tmod 81 ∧ (d.tmod 81 + 81).tmod 81 ≤ 80 := by
  have h1 := Int.tmod_lt_of_pos d (show (0 : Int) < 81 by omega)
  have h2 := Int.lt_tmod_of_pos d (show (0 : Int) < 81 by omega)
  have h3 := Int.tmod_lt_of_pos (d.tmod 81 + 81) (show (0 : Int) < 81 by omega)
  have h4 := Int.tmod_nonneg (a := d.tmod 81 + 81) 81 (by omega)
  omega

theorem own_le {X : World} {base base' n size : Nat} {e : TypeId} {v : Value} {xs : List Value} (h : X.ownsRow base e size v n xs) (hb : base' ≤ base) : X.ownsRow base' e size v n xs :=
  ⟨h.1, h.2.imp id (fun ⟨g, c, cur, e, hg, r⟩ => ⟨g, c, cur, e, Nat.le_trans hb hg, r⟩)⟩

theorem cell_set2 {X : World} {g : Nat} {a : Addr} (ha : a.block ≠ g)  (u v : Value) : ((X.setCell ⟨g, 0, none⟩ u).setCell ⟨g, 1, none⟩ v).cell? a = X.cell? a := by
  rw [World.cell?_setCell_other (h := fun e => ha (by rw [← e])), World.cell?_setCell_other (h := fun e => ha (by rw [← e]))]
theorem own_set2 {X : World} {base base' n size g : Nat} {e : TypeId} {w : Value} {xs : List Value} (h : X.ownsRow base e size w n xs) (hg : g < base) (u v : Value) (hb : base' ≤ base) :
    ((X.setCell ⟨g, 0, none⟩ u).setCell ⟨g, 1, none⟩ v).ownsRow base' e size w n xs :=
  own_le (ownsRow_setCell_below (ownsRow_setCell_below h hg u) hg v) hb

set_option maxRecDepth 100000 in
set_option maxHeartbeats 8000000 in
theorem law_lexLines (bp : Option Addr) (bn bc : Nat) (w : World) (L : LibOk w) (hb : LinesOk w bp bn) : Calls Tryd.prog 8 #[.slice bp bn bc] w (Gives w (.bool true)) := by
  obtain ⟨_, zs, hzl, hzs⟩ := hb
  have HL := Lib.hid L
  have HZL := Lib.hid hzl
  have HZS := Lib.hid hzs
  clear L hzl hzs
  by_cases h2 : 30 < bn
  · go_enter Tryd.func8, Tryd.ntmps8
    go_wp2_with (first
      | (go_at_call 19; refine (awake_any _ HL.out).mono ?_; rintro e w1 ⟨rfl, hb⟩; have HB := Lib.hid hb; clear hb))
    go_returns
    exact ⟨rfl, HB.out⟩
  · have hb6 : bn ≤ 30 := by omega
    clear h2
    go_enter Tryd.func8, Tryd.ntmps8
    go_wp2
    go_loopw [3, 4, 21] (fun l all i wr => ∃ (k : Nat) (pl : Option Addr) (cl : Nat) (pa : Option Addr) (na ca : Nat) (ys : List LineR), k ≤ bn ∧ i = .int .i64 k ∧ l = .slice pl k cl ∧ all = .slice pa na ca ∧ ys.length = k ∧ (toksOf ys 1).length = na ∧ na ≤ 400 * k ∧ (∀ y ∈ ys, y.fine) ∧
      wr.ownsRow w.heap.size 35 2 (.slice pl k cl) k (lineCells ys) ∧ wr.ownsRow w.heap.size 27 4 (.slice pa na ca) na (tokCells (toksOf ys 1)) ∧ Apart (.slice pl k cl) (.slice pa na ca) ∧ RowsIn w.heap.size wr (.slice pl k cl) (.slice pa na ca) ys ∧ Below w.heap.size w wr) (fun _ _ i _ => bn - (intOf i).toNat)
    case atStart => exact ⟨0, none, 0, none, 0, 0, [], Nat.zero_le _, rfl, rfl, rfl, rfl, rfl, Nat.zero_le _, (fun y hy => by simp at hy), World.ownsRow_nil _ _ _ _, World.ownsRow_nil _ _ _ _, (fun g hg => by simp [Value.ownBlock] at hg), (fun y hy => by simp at hy), Below.refl _ _⟩
    case round =>
      obtain ⟨k, pl, cl, pa, na, ca, ys, hk, rfl, rfl, rfl, hyl, hna, hnk, hfine, r1, r2, ap, rows, hbel⟩ := hrel
      have HW := Lib.hid hbel
      have HYL := Lib.hid hyl
      have HNA := Lib.hid hna
      have HF := Lib.hid hfine
      have R1 := Lib.hid r1
      have R2 := Lib.hid r2
      have AP := Lib.hid ap
      have RS := Lib.hid rows
      clear hyl hna hfine r1 r2 ap rows
      by_cases hlt : k < bn
      · obtain ⟨z, hz⟩ := line_some HZL.out hlt
        obtain ⟨a, rfl, c0, c1, ⟨hd0, hd1⟩, hzn, ht, hsz⟩ := HZS.out k z hz
        have HTZ := Lib.hid ht
        have HSZ := Lib.hid hsz
        clear ht hsz
        have z0 := keepA' hbel c0
        have z1 := keepA' hbel c1
        have hblz := World.block_lt_of_cell? _ _ z0
        have hal := Lib.hid ((Below.refl wr.heap.size wr).alloc (Nat.le_refl _) (.cells #[.int .i64 z.d, .slice z.p z.n z.cp] 35))
        have HW1 := Lib.hid (after HW.out hal.out)
        clear hz c0 c1 hbel hzn
        by_cases hbig : 400 < z.n
        · go_wp2_with (first
            | (go_at_call 19; refine (awake_any _ (HL.out.below HW1.out)).mono ?_; rintro e w1 ⟨rfl, hb⟩; have HB := Lib.hid (after HW1.out hb); clear hb))
          go_returns
          exact ⟨rfl, HB.out⟩
        · have hsm : z.n ≤ 400 := by omega
          clear hbig
          have hx0 := (World.alloc_heap_new wr (.cells #[.int .i64 z.d, .slice z.p z.n z.cp] 35))
          obtain ⟨b0, b1⟩ := line_box hx0
          clear hx0
          have hw81 : IntKind.i64.wrap (z.d.tmod 81 + 81) = z.d.tmod 81 + 81 := IntWalk.i64_in _ (by have h1 := Int.tmod_lt_of_pos z.d (show (0 : Int) < 81 by omega); have h2 := Int.lt_tmod_of_pos z.d (show (0 : Int) < 81 by omega); omega)
          go_upto_region 10 with fail
          go_cut [7] from 31 to 39 (fun v7 wx => ∃ (D m : Nat) (q : Option Addr) (cap : Nat), v7 = .pointer (some ⟨D, 0, none⟩) ∧ wr.heap.size < D ∧ (z.xs.filter mayT).length = m ∧ wx.heap[D]? = some (.cells #[.int .i64 ((z.d.tmod 81 + 81).tmod 81), .slice q m cap] 35 (0, 0)) ∧ wx.ownsRow wr.heap.size 27 4 (.slice q m cap) m (tokCells (z.xs.filter mayT)) ∧ Below wr.heap.size wr wx)
          case first =>
            have hy0 : ((wr.alloc (.cells #[.int .i64 z.d, .slice z.p z.n z.cp] 35)).alloc (.cells #[.int .i64 0, .slice none 0 0] 35)).drew.heap[wr.heap.size + 1]? = some (.cells #[.int .i64 0, .slice none 0 0] 35 (0, 0)) := by
              have := World.alloc_heap_new (wr.alloc (.cells #[.int .i64 z.d, .slice z.p z.n z.cp] 35)) (.cells #[.int .i64 0, .slice none 0 0] 35)
              rw [World.size_alloc] at this
              exact this
            have HY0 := Lib.hid hy0
            clear hy0
            refine wp_region_held_drew (S := fun w' => w'.cell? ⟨wr.heap.size, 0, none⟩ = some (.int .i64 z.d) ∧ w'.cell? ⟨wr.heap.size, 1, none⟩ = some (.slice z.p z.n z.cp)) (by kernel_rfl) (by exact ⟨b0, b1⟩) (fun hHeld => ?_)
            refine wpAnyH_take (i := 0) (v := ?_) (by simp only [List.getElem?_toArray, List.getElem?_cons_zero]; rfl) (by kernel_rfl) (by kernel_rfl) (by kernel_rfl) (by exact fun _ _ _ h => h) (Or.inl ⟨by rfl, ?_⟩) (by assumption) ?_
            rotate_left
            · (intro w' hSw; (try dsimp only at hSw); go_simp; try with_reducible rfl)
            try simp only [Act.put, List.setIfInBounds_toArray, List.set_cons_zero, List.set_cons_succ]
            refine wpAnyH_take (i := 1) (v := ?_) (by simp only [List.getElem?_toArray, List.getElem?_cons_zero, List.getElem?_cons_succ]; rfl) (by kernel_rfl) (by kernel_rfl) (by kernel_rfl) (by exact fun _ _ _ h => h) (Or.inl ⟨by rfl, ?_⟩) (by assumption) ?_
            rotate_left
            · (intro w' hSw; (try dsimp only at hSw); go_simp; try with_reducible rfl)
            try simp only [Act.put, List.setIfInBounds_toArray, List.set_cons_zero, List.set_cons_succ]
            refine wpAnyH_take (i := 2) (v := ?_) (by simp only [List.getElem?_toArray, List.getElem?_cons_zero, List.getElem?_cons_succ]; rfl) (by kernel_rfl) (by kernel_rfl) (by kernel_rfl) (by exact fun _ _ _ h => h) (Or.inl ⟨by rfl, ?_⟩) (by assumption) ?_
            rotate_left
            · (intro w' hSw; (try dsimp only at hSw); go_simp; try with_reducible rfl)
            try simp only [Act.put, List.setIfInBounds_toArray, List.set_cons_zero, List.set_cons_succ]
            refine wpAnyH_take (i := 3) (v := ?_) (by simp only [List.getElem?_toArray, List.getElem?_cons_zero, List.getElem?_cons_succ]; rfl) (by kernel_rfl) (by kernel_rfl) (by kernel_rfl) (by exact fun _ _ _ h => h) (Or.inl ⟨by rfl, ?_⟩) (by assumption) ?_
            rotate_left
            · (intro w' hSw; (try dsimp only at hSw); go_simp; try with_reducible rfl)
            try simp only [Act.put, List.setIfInBounds_toArray, List.set_cons_zero, List.set_cons_succ]
            refine wpAnyH_take (i := 4) (v := ?_) (by simp only [List.getElem?_toArray, List.getElem?_cons_zero, List.getElem?_cons_succ]; rfl) (by kernel_rfl) (by kernel_rfl) (by kernel_rfl) (by exact fun _ _ _ h => h) (Or.inl ⟨by rfl, ?_⟩) (by assumption) ?_
            rotate_left
            · (intro w' hSw; (try dsimp only at hSw); go_simp; try with_reducible rfl)
            try simp only [Act.put, List.setIfInBounds_toArray, List.set_cons_zero, List.set_cons_succ]
            refine wpAnyH_take (i := 5) (v := ?_) (by simp only [List.getElem?_toArray, List.getElem?_cons_zero, List.getElem?_cons_succ]; rfl) (by kernel_rfl) (by kernel_rfl) (by kernel_rfl) (by exact fun _ _ _ h => h) (Or.inl ⟨by rfl, ?_⟩) (by assumption) ?_
            rotate_left
            · (intro w' hSw; (try dsimp only at hSw); go_simp; try with_reducible rfl)
            try simp only [Act.put, List.setIfInBounds_toArray, List.set_cons_zero, List.set_cons_succ]
            refine wpAnyH_take (i := 6) (v := ?_) (by simp only [List.getElem?_toArray, List.getElem?_cons_zero, List.getElem?_cons_succ]; rfl) (by kernel_rfl) (by kernel_rfl) (by kernel_rfl) (by exact fun _ _ _ h => h) (Or.inl ⟨by rfl, ?_⟩) (by assumption) ?_
            rotate_left
            · (intro w' hSw; (try dsimp only at hSw); go_simp; try with_reducible rfl)
            try simp only [Act.put, List.setIfInBounds_toArray, List.set_cons_zero, List.set_cons_succ]
            refine wpAnyH_ready (rs := [7, 9]) (by kernel_rfl) (by simp) ?_
            refine AllReadyH.cons (by simp only [List.getElem?_toArray, List.getElem?_cons_zero, List.getElem?_cons_succ]; rfl) (fun K hK => ?_) (AllReadyH.cons (by simp only [List.getElem?_toArray, List.getElem?_cons_zero, List.getElem?_cons_succ]; rfl) (fun K hK => ?_) (AllReadyH.nil))
            · go_simp
              refine (known_any _ _ _ z.xs _ (HTZ.out.below (Below.drew HW1.out)) HSZ.out hsm).mono ?_
              rintro e w5 ⟨q, cap, rfl, hrow, hb⟩
              go_wp2_with fail
              refine hK.out _ _ ⟨keepA' hb hHeld.1, keepA' hb hHeld.2⟩ (fun hNext => ?_)
              clear hHeld hK K
              have hHeld := hNext
              clear hNext
              try simp only [Act.put, List.setIfInBounds_toArray, List.set_cons_zero, List.set_cons_succ]
              have HB5 := Lib.hid (after (Below.drew hal.out) hb)
              have HK := Lib.hid hrow
              have hlt5 : wr.heap.size < w5.heap.size := by have := hb.size; simp [World.drew] at this; omega
              obtain ⟨d0, d1⟩ := hHeld
              have hHeld : w5.cell? ⟨wr.heap.size, 0, none⟩ = some (.int .i64 z.d) ∧ w5.cell? ⟨wr.heap.size, 1, none⟩ = some (.slice z.p z.n z.cp) := ⟨d0, d1⟩
              clear hb hrow
              refine wpAnyH_take (i := 8) (v := ?_) (by simp only [List.getElem?_toArray, List.getElem?_cons_zero, List.getElem?_cons_succ]; rfl) (by kernel_rfl) (by kernel_rfl) (by kernel_rfl) (by exact fun _ _ _ h => h) (Or.inl ⟨by rfl, ?_⟩) (by assumption) ?_
              rotate_left
              · (intro w' hSw; (try dsimp only at hSw); go_simp; try with_reducible rfl)
              try simp only [Act.put, List.setIfInBounds_toArray, List.set_cons_zero, List.set_cons_succ]
              refine wpAnyH_ready (rs := [9]) (by kernel_rfl) (by simp) ?_
              refine AllReadyH.cons (by simp only [List.getElem?_toArray, List.getElem?_cons_zero, List.getElem?_cons_succ]; rfl) (fun K hK => ?_) (AllReadyH.nil)
              go_simp
              go_wp2_with fail
              refine hK.out _ _ ⟨Lib.cell?_alloc_some _ hHeld.1, Lib.cell?_alloc_some _ hHeld.2⟩ (fun hNext => ?_)
              clear hHeld hK K
              have hHeld := hNext
              clear hNext
              try simp only [Act.put, List.setIfInBounds_toArray, List.set_cons_zero, List.set_cons_succ]
              refine wpAnyH_ready (rs := [10]) (by kernel_rfl) (by simp) ?_
              refine AllReadyH.cons (by simp only [List.getElem?_toArray, List.getElem?_cons_zero, List.getElem?_cons_succ]; rfl) (fun K hK => ?_) (AllReadyH.nil)
              go_simp
              go_wp2_with fail
              refine hK.out _ _ ⟨Lib.cell?_alloc_some _ d0, Lib.cell?_alloc_some _ d1⟩ (fun hNext => ?_)
              clear hHeld hK K
              have hHeld := hNext
              clear hNext
              try simp only [Act.put, List.setIfInBounds_toArray, List.set_cons_zero, List.set_cons_succ]
              refine wpAnyH_done (by kernel_rfl) ?_ _
              clear hHeld
              go_wp2_with fail
              go_meet
              exact ⟨w5.heap.size, _, q, cap, rfl, by have := HB5.out.size; have := hlt5; omega, rfl, World.alloc_heap_new _ _, (own_le HK.out (by simp [World.drew])).alloc _, HB5.out.alloc HB5.out.size _⟩
            · go_simp
              go_wp2_with fail
              refine hK.out _ _ ⟨Lib.cell?_alloc_some _ hHeld.1, Lib.cell?_alloc_some _ hHeld.2⟩ (fun hNext => ?_)
              clear hHeld hK K
              have hHeld := hNext
              clear hNext
              try simp only [Act.put, List.setIfInBounds_toArray, List.set_cons_zero, List.set_cons_succ]
              refine wpAnyH_ready (rs := [7]) (by kernel_rfl) (by simp) ?_
              refine AllReadyH.cons (by simp only [List.getElem?_toArray, List.getElem?_cons_zero, List.getElem?_cons_succ]; rfl) (fun K hK => ?_) (AllReadyH.nil)
              go_simp
              refine (known_any _ _ _ z.xs _ (HTZ.out.below (Below.drew (HW1.out.alloc (by have := HW.out.size; simp; omega) _))) HSZ.out hsm).mono ?_
              rintro e w5 ⟨q, cap, rfl, hrow, hb⟩
              go_wp2_with fail
              refine hK.out _ _ ⟨keepA' hb hHeld.1, keepA' hb hHeld.2⟩ (fun hNext => ?_)
              clear hHeld hK K
              have hHeld := hNext
              clear hNext
              try simp only [Act.put, List.setIfInBounds_toArray, List.set_cons_zero, List.set_cons_succ]
              have HB5 := Lib.hid (after (Below.drew (hal.out.alloc (by simp) _)) hb)
              have HK := Lib.hid hrow
              have y5 : w5.heap[wr.heap.size + 1]? = some (.cells #[.int .i64 0, .slice none 0 0] 35 (0, 0)) := (hb.block (wr.heap.size + 1) (by simp [World.drew])).trans HY0.out
              have hlt5 : wr.heap.size < w5.heap.size := by have := hb.size; simp [World.drew] at this; omega
              obtain ⟨d0, d1⟩ := hHeld
              have hHeld : w5.cell? ⟨wr.heap.size, 0, none⟩ = some (.int .i64 z.d) ∧ w5.cell? ⟨wr.heap.size, 1, none⟩ = some (.slice z.p z.n z.cp) := ⟨d0, d1⟩
              clear hb hrow
              refine wpAnyH_take (i := 8) (v := ?_) (by simp only [List.getElem?_toArray, List.getElem?_cons_zero, List.getElem?_cons_succ]; rfl) (by kernel_rfl) (by kernel_rfl) (by kernel_rfl) (by exact fun _ _ _ h => h) (Or.inl ⟨by rfl, ?_⟩) (by assumption) ?_
              rotate_left
              · (intro w' hSw; (try dsimp only at hSw); go_simp; try with_reducible rfl)
              try simp only [Act.put, List.setIfInBounds_toArray, List.set_cons_zero, List.set_cons_succ]
              refine wpAnyH_ready (rs := [10]) (by kernel_rfl) (by simp) ?_
              refine AllReadyH.cons (by simp only [List.getElem?_toArray, List.getElem?_cons_zero, List.getElem?_cons_succ]; rfl) (fun K hK => ?_) (AllReadyH.nil)
              go_simp
              obtain ⟨y50, y51⟩ := line_box y5
              have y5f : ∀ j, w5.frozen? ⟨wr.heap.size + 1, j, none⟩ = false := fun j => by simp [World.frozen?, y5]
              have y5f0 := y5f 0
              have y5f1 := y5f 1
              clear y5f
              go_wp2_with fail
              all_goals
                have ybox : ((w5.setCell ⟨wr.heap.size + 1, 0, none⟩ (.int .i64 ((z.d.tmod 81 + 81).tmod 81))).setCell ⟨wr.heap.size + 1, 1, none⟩ (.slice q (z.xs.filter mayT).length cap)).heap[wr.heap.size + 1]? = some (.cells #[.int .i64 ((z.d.tmod 81 + 81).tmod 81), .slice q (z.xs.filter mayT).length cap] 35 (0, 0)) := (heap_setCell_same _ _ _ _ _ _ (heap_setCell_same _ _ _ _ _ _ y5))
                have orow := own_set2 HK.out (g := wr.heap.size + 1) (by simp [World.drew]) (.int .i64 ((z.d.tmod 81 + 81).tmod 81)) (.slice q (z.xs.filter mayT).length cap) (base' := wr.heap.size) (by simp [World.drew]; omega)
                have obel := ((HB5.out.setCell (p := ⟨wr.heap.size + 1, 0, none⟩) (Nat.le_succ _) (.int .i64 ((z.d.tmod 81 + 81).tmod 81))).setCell (p := ⟨wr.heap.size + 1, 1, none⟩) (Nat.le_succ _) (.slice q (z.xs.filter mayT).length cap))
                refine hK.out _ _ ⟨(cell_set2 (by simp) _ _).trans d0, (cell_set2 (by simp) _ _).trans d1⟩ (fun hHeld => ?_)
                clear hK K
                try simp only [Act.put, List.setIfInBounds_toArray, List.set_cons_zero, List.set_cons_succ]
                refine wpAnyH_done (by kernel_rfl) ?_ _
                clear hHeld
                go_wp2_with fail
                go_meet
                exact ⟨wr.heap.size + 1, _, q, cap, rfl, by omega, rfl, ybox, orow, obel⟩
          case rest =>
            obtain ⟨D, m, q, cap, rfl, hD, hm, hy, hrow, hb⟩ := hcut
            obtain ⟨fx, hfx⟩ : ∃ fx, z.xs.filter mayT = fx := ⟨_, rfl⟩
            rw [hfx] at hm hrow
            have hmz : m ≤ 400 := by
              rw [← hm, ← hfx]
              exact Nat.le_trans (List.length_filter_le _ _) (by have := HTZ.out.1; omega)
            have HFX := Lib.hid (fun (x : TokR) (hx : x ∈ fx) => show mayT x = true ∧ x.t.size ≤ 9223372036854775807 by
              rw [← hfx] at hx
              obtain ⟨ha, hb⟩ := List.mem_filter.1 hx
              obtain ⟨i, hi⟩ := List.mem_iff_getElem?.1 ha
              exact ⟨hb, HSZ.out i x hi⟩)
            obtain ⟨dd, hdd⟩ : ∃ dd, (z.d.tmod 81 + 81).tmod 81 = dd := ⟨_, rfl⟩
            rw [hdd] at hy
            have HDD := Lib.hid (hdd ▸ mod_range z.d)
            have hDl : D < wc.heap.size := (Array.getElem?_eq_some_iff.1 hy).1
            have HDL := Lib.hid hDl
            have HM := Lib.hid hm
            have HK := Lib.hid hrow
            have HWX := Lib.hid (after HW.out hb)
            have R1x := Lib.hid (row_below R1.out hb)
            have R2x := Lib.hid (row_below R2.out hb)
            have RSx := Lib.hid (RS.out.below hb)
            have A1 := Lib.hid (apart_first R1.out hrow (Nat.le_refl _))
            have A2 := Lib.hid (apart_first R2.out hrow (Nat.le_refl _))
            have hHKw := own_le HK.out HW.out.size
            have HKw := Lib.hid hHKw
            have HYD := Lib.hid hy
            obtain ⟨y0, y1⟩ := line_box hy
            obtain ⟨i1, gi, gz0, gz1, gz2⟩ := info_parts infoLine
            obtain ⟨i0, hi, hz0, hz1, hz2⟩ := info_parts infoTok
            have hws := HWX.out.size
            clear hm hrow hb hy hfx hdd hHKw
            go_wp2_with (at_builtin; refine wpList_append_own_at _ rfl _ _ 33 rfl w.heap.size 35 i1 _ 2 32 Tryd.underlying33 gi gz0 gz1 gz2 rfl (by decide) _ _ _ rfl (R1x.out.alloc _) ⟨wc.heap.size, 0, none⟩ 1 1 [.int .i64 dd, .slice q m cap] rfl rfl (cells_new _ _ _ _ rfl) (by simp [Value.oneCell']) (by unfold maxLen; omega) (by omega) (by simp; omega) ?_; intro v' w5 hown' hgrow _ hdis; have HB5 := Lib.hid (below_append (HWX.out.alloc HWX.out.size _) (by simp; omega) (R1x.out.alloc _) hgrow); have R2' := Lib.hid ((R2x.out.alloc _).kept hgrow AP.out.off); have RS' := Lib.hid ((RSx.out.alloc _).grown hgrow hdis); have HK' := Lib.hid ((HKw.out.alloc _).kept hgrow A1.out.off); have AP' := Lib.hid (AP.out.next (R2x.out.alloc _) hdis); have A1' := Lib.hid (A1.out.next (HKw.out.alloc _) hdis); have hyD := (hgrow.block D (by simp; omega) (fun e => by have := own_lt R1.out e.symm; omega)).trans ((((Below.refl wc.heap.size wc).alloc (Nat.le_refl _) _).block D HDL.out).trans HYD.out); have hY := line_box hyD; obtain ⟨yy0, yy1⟩ := hY; obtain ⟨g', cap', rfl⟩ := ownsRow_succ hown'; have HO := Lib.hid hown'; clear hown' hgrow hdis hyD)
            have hO : w5.ownsRow w.heap.size 35 2 (.slice (some ⟨g', 0, none⟩) (k + 1) cap') (k + 1) (lineCells (ys ++ [⟨dd, q, m, cap, fx⟩])) := by
              rw [lineCells_append]; exact HO.out
            have HO2 := Lib.hid hO
            have RS2 := Lib.hid (RS'.out.snoc (z := ⟨dd, q, m, cap, fx⟩) HK'.out A1'.out A2.out)
            clear hO
            go_loopw [4, 47] (fun v i w6 => ∃ (j : Nat) (p2 : Option Addr) (n2 c2 : Nat), j ≤ m ∧ i = .int .i64 j ∧ v = .slice p2 n2 c2 ∧ n2 = na + j ∧
                w6.ownsRow w.heap.size 27 4 (.slice p2 n2 c2) n2 (tokCells (toksOf ys 1 ++ (fx.take j).map (fun x => { x with l := ((k + 1 : Nat) : Int) }))) ∧ w6.ownsRow w.heap.size 35 2 (.slice (some ⟨g', 0, none⟩) (k + 1) cap') (k + 1) (lineCells (ys ++ [⟨dd, q, m, cap, fx⟩])) ∧
                RowsIn w.heap.size w6 (.slice (some ⟨g', 0, none⟩) (k + 1) cap') (.slice p2 n2 c2) (ys ++ [⟨dd, q, m, cap, fx⟩]) ∧ Apart (.slice (some ⟨g', 0, none⟩) (k + 1) cap') (.slice p2 n2 c2) ∧ Below w.heap.size w w6) (fun _ i _ => m - (intOf i).toNat)
            case atStart => exact ⟨0, pa, na, ca, Nat.zero_le _, rfl, rfl, rfl, by simpa using R2'.out, HO2.out, RS2.out, AP'.out, HB5.out⟩
            case round =>
              obtain ⟨j, p2, n2, c2, hj, rfl, rfl, rfl, q2, q1, qs, qa, hbw⟩ := hrel
              have Q1 := Lib.hid q1
              have Q2 := Lib.hid q2
              have QS := Lib.hid qs
              have QA := Lib.hid qa
              have HV := Lib.hid hbw
              clear q1 q2 qs qa hbw
              by_cases hjm : j < m
              · obtain ⟨x, hx⟩ := list_at (xs := fx) (k := j) (by rw [HM.out]; exact hjm)
                have HXJ := Lib.hid hx
                obtain ⟨ad, hq2, hax⟩ := (toks_of_row (QS.out ⟨dd, q, m, cap, fx⟩ (by simp)).1 HM.out).2 j x hx
                dsimp only at hq2
                subst hq2
                obtain ⟨x0, x1, x2, x3⟩ := hax
                have hblx := World.block_lt_of_cell? _ _ x0
                obtain ⟨xk, xl, xt, xn⟩ := x
                dsimp only at x0 x1 x2 x3
                have hwv := HV.out.size
                clear hx
                go_wp2_with (at_builtin; refine wpList_append_own_at _ rfl _ _ 24 rfl w.heap.size 27 i0 _ 4 40 Tryd.underlying24 hi hz0 hz1 hz2 rfl (by decide) _ _ _ rfl ((Q2.out.alloc _).alloc _) ⟨wr.heap.size + 1, 0, none⟩ 1 1 [.int .u8 xk, .int .i64 ((k : Int) + 1), .string xt, .int .i64 xn] rfl rfl (cells_new _ _ _ _ (by simp)) (by simp [Value.oneCell']) (by unfold maxLen; omega) (by omega) (by simp; omega) ?_; intro v' w7 hown' hgrow _ hdis; have HB7 := Lib.hid (below_append ((HV.out.alloc HV.out.size _).alloc (by simp; omega) _) (by simp; omega) ((Q2.out.alloc _).alloc _) hgrow); have Q1' := Lib.hid (((Q1.out.alloc _).alloc _).kept hgrow QA.out.symm.off); have QA' := Lib.hid (QA.out.symm.next ((Q1.out.alloc _).alloc _) hdis); have QS' := Lib.hid (((QS.out.alloc _).alloc _).swap.grown hgrow hdis); obtain ⟨g7, cap7, rfl⟩ := ownsRow_succ hown'; have HO7 := Lib.hid hown'; clear hown' hgrow hdis)
                go_roundw
                case rel =>
                  refine ⟨j + 1, some ⟨g7, 0, none⟩, na + (j + 1), cap7, by omega, by go_num, rfl, rfl, ?_, Q1'.out, QS'.out.swap, QA'.out.symm, HB7.out⟩
                  have e2 : tokCells (toksOf ys 1 ++ (fx.take (j + 1)).map (fun x => { x with l := ((k + 1 : Nat) : Int) })) = tokCells (toksOf ys 1 ++ (fx.take j).map (fun x => { x with l := ((k + 1 : Nat) : Int) })) ++ [.int .u8 xk, .int .i64 ((k : Int) + 1), .string xt, .int .i64 xn] := by
                    rw [take_snocT HXJ.out, List.map_append, ← List.append_assoc, tokCells_append]
                    congr 1
                  rw [e2]; exact HO7.out
                case measure => simp [intOf]; omega
              · obtain rfl : j = m := by omega
                have htk : fx.take j = fx := by rw [← HM.out, List.take_length]
                have hts : toksOf (ys ++ [⟨dd, q, j, cap, fx⟩]) 1 = toksOf ys 1 ++ (fx.take j).map (fun x => { x with l := ((k + 1 : Nat) : Int) }) := by
                  rw [toksOf_append, HYL.out, htk, toksOf, toksOf, List.append_nil, Nat.add_comm 1 k]
                have HTS := Lib.hid hts
                clear hts htk
                go_wp2
                go_roundw
                case rel =>
                  exact ⟨k + 1, some ⟨g', 0, none⟩, cap', p2, na + j, c2, ys ++ [⟨dd, q, j, cap, fx⟩], by omega, by go_num, rfl, rfl, by rw [List.length_append, HYL.out]; rfl, by rw [HTS.out, List.length_append, List.length_map, List.length_take, HNA.out, HM.out, Nat.min_self], by omega,
                    (fun y hy => by
                      rcases List.mem_append.1 hy with hy | hy
                      · exact HF.out y hy
                      · obtain rfl := List.mem_singleton.1 hy
                        exact ⟨HDD.out, HFX.out, HM.out, hmz⟩), Q1.out, by rw [HTS.out]; exact Q2.out, QA.out, QS.out, HV.out⟩
                case measure => simp [intOf]; omega
      · obtain rfl : k = bn := by omega
        have hlin := lines_of_row R1.out HYL.out (fun z hz => ⟨(RS.out z hz).1, (HF.out z hz).2.2.1, by have := (HF.out z hz).2.2.2; omega, fun x hx => ((HF.out z hz).2.1 x hx).2⟩)
        have hval : ys.all LineR.valid = true := List.all_eq_true.2 (fun z hz => by
          obtain ⟨⟨h0, h8⟩, hx, _, _⟩ := HF.out z hz
          unfold LineR.valid
          rw [decide_eq_true (show 0 ≤ z.d ∧ z.d ≤ 80 from ⟨h0, h8⟩), List.all_eq_true.2 (fun x hx' => (hx x hx').1)]; rfl)
        have HLIN := Lib.hid hlin
        have HLW := Lib.hid (HL.out.below hbel)
        clear hlin
        by_cases hs : ys.all LineR.short = true ∧ (linesT ys).length ≤ 65536
        · have hts : linesS ys = linesT ys := by rw [linesS, hval, if_pos rfl, if_pos hs]
          have hte : linesE ys = 0 := by rw [linesE, hval, if_pos rfl, if_pos hs]
          obtain ⟨hrd, hfd⟩ := read_lines hval hs.1 hs.2 (by rw [HYL.out]; exact hb6)
          have hlen : (linesT ys).length ≤ 65536 := hs.2
          have HTS := Lib.hid hts
          have HTE := Lib.hid hte
          have HRD := Lib.hid hrd
          have HFD := Lib.hid hfd
          have HLN := Lib.hid hlen
          have HT2 := Lib.hid (toks_of_row R2.out HNA.out)
          clear hts hte hrd hfd hval hs hlen
          have hcb : ∀ s : ByteArray, s.toList = linesT ys → (Lib.countByte s.data.toList 10 : Nat) = k := fun s h => by rw [← ByteArray.toList_eq, h]; exact HFD.out.trans HYL.out
          have HCB := Lib.hid hcb
          clear hcb
          go_wp2_with (first
            | (go_at_call 29; refine (lines_any _ _ _ ys _ HLIN.out (by omega) HLW.out.pow).mono ?_; rw [HTS.out, HTE.out]; rintro e w2 ⟨s, rfl, hs, hb⟩; have HB2 := Lib.hid (after HW.out hb); have HT3 := Lib.hid (HT2.out.below hb); have HS := Lib.hid hs; have hsz : s.size ≤ 65536 := (by rw [← length_toList, hs]; exact HLN.out); clear hs hb)
            | (go_at_call 24; refine (tokens_reads _ _ (HL.out.below HB2.out).len (by omega)).mono ?_; rw [HS.out, HRD.out]; rintro e w3 ⟨q3, c3, rfl, hrow, hb⟩; have HT4 := Lib.hid (HT3.out.below hb); have HB3 := Lib.hid (after HB2.out hb); simp only [Rd.toks, HNA.out] at hrow; have HTR := Lib.hid (toks_of_row hrow HNA.out); simp only [Rd.toks, Rd.line, Rd.err, HNA.out]; clear hrow hb)
            | (go_at_call 26; refine (equal_any _ _ _ _ _ _ _ _ _ HTR.out HT4.out (by omega) (by omega)).mono ?_; rw [eq_refl]; rintro e w5 ⟨rfl, hb⟩; have HB5 := Lib.hid (after HB3.out hb); clear hb)
            | (go_at_call 32; refine (Tryd.strings_Count_one _ _ _).mono ?_; rw [HCB.out _ HS.out]; rintro _ _ ⟨rfl, rfl⟩)
            | (go_at_call 19; refine (awake_any _ (HL.out.below HB5.out)).mono ?_; rintro e w6 ⟨rfl, hb⟩; have HB6 := Lib.hid (after HB5.out hb); clear hb))
          go_returns
          exact ⟨rfl, HB6.out⟩
        · have hts : linesS ys = [] := by rw [linesS, hval, if_pos rfl, if_neg hs]
          have hte : linesE ys = 3 := by rw [linesE, hval, if_pos rfl, if_neg hs]
          have HTS := Lib.hid hts
          have HTE := Lib.hid hte
          clear hts hte hval hs
          go_wp2_with (first
            | (go_at_call 29; refine (lines_any _ _ _ ys _ HLIN.out (by omega) HLW.out.pow).mono ?_; rw [HTS.out, HTE.out]; rintro e w2 ⟨s, rfl, hs, hb⟩; have HB2 := Lib.hid (after HW.out hb); obtain rfl : s = ⟨#[]⟩ := ba_ext (hs.trans (str_toList []).symm); clear hs hb)
            | (go_at_call 19; refine (awake_any _ (HL.out.below HB2.out)).mono ?_; rintro e w6 ⟨rfl, hb⟩; have HB6 := Lib.hid (after HB2.out hb); clear hb))
          go_returns
          exact ⟨rfl, HB6.out⟩

end Go.Proofs.YtalbcgbfefgjfaaDoor
