
/-
  THE LAW LexAgain: its walk.
-/
import Derived.Test.YtalbcgbfefgjfaaDoorLexLa
import Derived.Test.YtalbcgbfefgjfaaDoorLexAk
import Derived.Test.YtalbcgbfefgjfaaDoorLexOp
import Derived.Test.YtalbcgbfefgjfaaDoorLexLn
import Derived.RegionTactic
import Derived.Deep.RegionHeld3
import Derived.OwnWalk
import Derived.Laws.OwnMore
namespace Go.Proofs.YtalbcgbfefgjfaaDoor
open Go Go.RowKit

theorem own_leG {X : World} {base base' n size : Nat} {e : TypeId} {v : Value} {xs : List Value} (h : X.ownsRow base e size v n xs) (hb : base' ≤ base) : X.ownsRow base' e size v n xs :=
  ⟨h.1, h.2.imp id (fun ⟨g, c, cur, e, hg, r⟩ => ⟨g, c, cur, e, Nat.le_trans hb hg, r⟩)⟩
theorem may_size {x : TokR} (h : mayT x = true) : x.t.size ≤ 9223372036854775807 := by
  have hl := length_toList x.t
  rcases may_kinds h with hk | hk | hk | hk
  · obtain ⟨h1, _⟩ := may_name h hk
    unfold nameB at h1
    simp only [Bool.and_eq_true, decide_eq_true_eq] at h1
    omega
  · obtain ⟨h1, _⟩ := may_key h hk
    rw [List.contains_eq_mem, decide_eq_true_eq] at h1
    have : ∀ y ∈ keyL, y.length ≤ 32 := by decide
    have := this _ h1
    omega
  · obtain ⟨h1, _⟩ := may_int h hk
    rw [h1, List.length_nil] at hl
    omega
  · obtain ⟨h1, _⟩ := may_sym h hk
    rw [List.contains_eq_mem, decide_eq_true_eq] at h1
    have : ∀ y ∈ symL, y.length ≤ 32 := by decide
    have := this _ h1
    omega

def noLine : LineR := ⟨0, none, 0, 0, []⟩
theorem made_lines (n : Nat) : (madeCells #[.int .i64 0, .slice none 0 0] (n * 2)).toList = lineCells (List.replicate n noLine) := by
  refine List.ext_getElem? fun i => ?_
  by_cases hi : i < n * 2
  · have hL : (madeCells #[Value.int .i64 0, .slice none 0 0] (n * 2)).toList[i]? = some (#[Value.int .i64 0, .slice none 0 0][i % 2]!) := by
      unfold madeCells
      simp [hi]
    rw [hL]
    have hz := lineCells_at (List.replicate n noLine) (i / 2) noLine (by rw [List.getElem?_replicate, if_pos (by omega)])
    rcases Nat.mod_two_eq_zero_or_one i with h | h
    · rw [h, show i = i / 2 * 2 by omega, hz.1]; rfl
    · rw [h, show i = i / 2 * 2 + 1 by omega, hz.2]; rfl
  · rw [List.getElem?_eq_none (by simp [madeCells]; omega), List.getElem?_eq_none (by rw [lineCells_length, List.length_replicate]; omega)]

/-- The lines that hold the tokens that have been gone over. -/
structure Sorted (B : Nat) (X : World) (u v : Value) (xs : List TokR) (zs : List LineR) : Prop where
  rows : RowsIn B X u v zs
  toks : ∀ (j : Nat) (z : LineR), zs[j]? = some z → z.d = 0 ∧ z.xs = lineToks xs (j + 1) ∧ z.xs.length = z.n
  apart : ∀ (i j : Nat) (y z : LineR), i ≠ j → zs[i]? = some y → zs[j]? = some z → Apart (zval y) (zval z)

/-- A token more: it is appended to its line's row, and the line's slice is stored. -/
theorem Sorted.next {B : Nat} {X Y : World} {u : Value} {g n cp nu : Nat} {cu : List Value} {xs : List TokR} {k j : Nat} {x : TokR} {zs : List LineR} {z z' : LineR}
    (hs : Sorted B X u (.slice (some ⟨g, 0, none⟩) n cp) (xs.take k) zs) (hx : xs[k]? = some x) (hl : x.l = ((j + 1 : Nat) : Int)) (hz : zs[j]? = some z)
    (hu : X.ownsRow B 27 4 u nu cu) (hv : X.ownsRow B 35 2 (.slice (some ⟨g, 0, none⟩) n cp) n (lineCells zs)) (hap : Apart u (.slice (some ⟨g, 0, none⟩) n cp))
    (hg : X.grownBy Y (zval z).ownBlock) (hd : (zval z').ownBlock = (zval z).ownBlock ∨ (zval z').ownBlock = some X.heap.size) (hr : RowIn B Y z') (hz0 : z'.d = 0) (hzx : z'.xs = z.xs ++ [x]) (hzn : z'.n = z.n + 1) :
    (Y.setCell ⟨g, j * 2 + 1, none⟩ (zval z')).ownsRow B 27 4 u nu cu ∧ (Y.setCell ⟨g, j * 2 + 1, none⟩ (zval z')).ownsRow B 35 2 (.slice (some ⟨g, 0, none⟩) n cp) n (lineCells (zs.set j z')) ∧
      Sorted B (Y.setCell ⟨g, j * 2 + 1, none⟩ (zval z')) u (.slice (some ⟨g, 0, none⟩) n cp) (xs.take (k + 1)) (zs.set j z') := by
  obtain ⟨zr, zu, zv⟩ := hs.rows z (List.mem_of_getElem? hz)
  obtain ⟨zd, zx, zn⟩ := hs.toks j z hz
  have hjl := (List.getElem?_eq_some_iff.1 hz).1
  have u1 := hu.kept hg zu.symm.off
  have v1 := hv.kept hg zv.symm.off
  have au : Apart (zval z') u := zu.symm.next hu hd
  have av : Apart (zval z') (.slice (some ⟨g, 0, none⟩) n cp) := zv.symm.next hv hd
  have ug : u.ownBlock ≠ some g := fun e => hap g e rfl
  have zg : (zval z').ownBlock ≠ some g := fun e => av g e rfl
  have others : ∀ (i : Nat) (y : LineR), i ≠ j → zs[i]? = some y → RowIn B (Y.setCell ⟨g, j * 2 + 1, none⟩ (zval z')) y ∧ Apart u (zval y) ∧ Apart (.slice (some ⟨g, 0, none⟩) n cp) (zval y) ∧ Apart (zval z') (zval y) := fun i y hi hy => by
    obtain ⟨yr, yu, yv⟩ := hs.rows y (List.mem_of_getElem? hy)
    have hzy := hs.apart j i z y (Ne.symm hi) hz hy
    exact ⟨ownsRow_setCell_other (yr.kept hg hzy.off) (fun e => yv g rfl e) _, yu, yv, hzy.next yr hd⟩
  have at' : ∀ (i : Nat) (y : LineR), (zs.set j z')[i]? = some y → (i = j ∧ y = z') ∨ (i ≠ j ∧ zs[i]? = some y) := fun i y hy => by
    by_cases hij : i = j
    · subst hij
      rw [List.getElem?_set_self hjl] at hy
      exact Or.inl ⟨rfl, (Option.some.inj hy).symm⟩
    · rw [List.getElem?_set_ne (Ne.symm hij)] at hy
      exact Or.inr ⟨hij, hy⟩
  refine ⟨ownsRow_setCell_other u1 ug _, ?_, fun y hy => ?_, fun i y hy => ?_, fun i i2 y y2 hne hy hy2 => ?_⟩
  · rw [lineCells_set zs j z z' hz (hz0.trans zd.symm)]
    exact (v1.stored (j * 2 + 1) (zval z')).1
  · obtain ⟨i, hi⟩ := List.mem_iff_getElem?.1 hy
    rcases at' i y hi with ⟨_, rfl⟩ | ⟨hij, hy'⟩
    · exact ⟨ownsRow_setCell_other hr zg _, au.symm, av.symm⟩
    · obtain ⟨a, b, c, _⟩ := others i y hij hy'
      exact ⟨a, b, c⟩
  · rcases at' i y hy with ⟨rfl, rfl⟩ | ⟨hij, hy'⟩
    · refine ⟨hz0, ?_, by rw [hzx, List.length_append, zn, hzn]; rfl⟩
      rw [hzx, lineToks_snoc_same hx hl, zx]
    · obtain ⟨a, b, c⟩ := hs.toks i y hy'
      refine ⟨a, ?_, c⟩
      rw [lineToks_snoc_other hx (by rw [hl]; omega), b]
  · rcases at' i y hy with ⟨rfl, rfl⟩ | ⟨hij, hy'⟩
    · rcases at' i2 y2 hy2 with ⟨rfl, rfl⟩ | ⟨hij2, hy2'⟩
      · exact absurd rfl hne
      · exact (others i2 y2 hij2 hy2').2.2.2
    · rcases at' i2 y2 hy2 with ⟨rfl, rfl⟩ | ⟨hij2, hy2'⟩
      · exact (others i y hij hy').2.2.2.symm
      · exact hs.apart i i2 y y2 hne hy' hy2'
theorem Sorted.below {B : Nat} {X Y : World} {u v : Value} {xs : List TokR} {zs : List LineR} (h : Sorted B X u v xs zs) (hb : Below X.heap.size X Y) : Sorted B Y u v xs zs := ⟨h.rows.below hb, h.toks, h.apart⟩
theorem Sorted.alloc {B : Nat} {X : World} {u v : Value} {xs : List TokR} {zs : List LineR} (h : Sorted B X u v xs zs) (o : Obj) : Sorted B (X.alloc o) u v xs zs := ⟨h.rows.alloc o, h.toks, h.apart⟩
/-- 'append' by itself, within a region that draws. -/
theorem oper_append {P : Program} {o : Oper} {a : Act} {K : Act → World → Prop} {Q : Exit → Act → World → Prop} {w : World} (s x : Operand) (t : TypeId)
    (ho : o.op = .call { callee := .builtin .append, args := #[s, x], argTypes := #[t, t] })
    (base : Nat) (e : TypeId) (i : TypeInfo) (z : Value) (size bytes : Nat) (ht : P.underlying t = some (.slice e)) (hi : P.info? e = some i) (hz : i.zero = some z)
    (hsize : i.size = size) (hby : i.bytes = bytes) (hzs : z.cells.size = size) (hsz : 0 < size)
    (v : Value) (n : Nat) (xs : List Value) (hs : a.eval s = v) (hown : w.ownsRow base e size v n xs)
    (ad : Addr) (m c : Nat) (news : List Value) (hx : a.eval x = .slice (some ad) m c) (hl : news.length = m * size) (hnews : ∀ j u, news[j]? = some u → w.cell? (ad.add j) = some u) (h1 : ∀ u ∈ news, u.oneCell' = true)
    (h63 : n + m ≤ maxLen) (hbytes : (n + m) * bytes ≤ 140737488355328) (hbase : base ≤ w.heap.size)
    (h : ∀ v' w', w'.ownsRow base e size v' (n + m) (xs ++ news) → w.grownBy w' v.ownBlock → (v'.ownBlock = v.ownBlock ∨ v'.ownBlock = some w.heap.size) → K (a.put o.dst v') w') :
    Oper.wp P o a w K Q := by
  obtain ⟨v', w', hr, h2, h3, _, h5⟩ := run_append_own_at (P := P) w base t o.type e i z size bytes ht hi hz hsize hby hzs hsz v n xs hown ad m c news hl hnews h1 h63 hbytes hbase
  unfold Oper.wp execOp
  simp only [ho, resolve, invoke, builtin, Sem.run_bind, Sem.run_pure, Result.andThen_ok, List.map_toArray, List.map_cons, List.map_nil, hs, hx, hr]
  exact h v' w' h2 h3 h5

set_option maxRecDepth 100000 in
set_option maxHeartbeats 8000000 in
theorem law_lexAgain (src : ByteArray) (w : World) (L : LibOk w) (_ : src.size ≤ 9223372036854775807) : Calls Tryd.prog 9 #[.string src] w (Gives w (.bool true)) := by
  have HL := Lib.hid L
  clear L
  by_cases h1 : 3000 < src.size
  · go_enter Tryd.func9, Tryd.ntmps9
    go_wp2_with (first
      | (go_at_call 19; refine (awake_any _ HL.out).mono ?_; rintro e w1 ⟨rfl, hb⟩; have HB := Lib.hid hb; clear hb))
    go_returns
    exact ⟨rfl, HB.out⟩
  · have hs3 : src.size ≤ 3000 := by omega
    have hls := length_toList src
    clear h1
    obtain ⟨c, hc⟩ : ∃ c, feeds src.toList = c := ⟨_, rfl⟩
    have hc3 : c ≤ 3000 := by have := feeds_le src.toList; omega
    have hcb : (Lib.countByte src.data.toList 10 : Nat) = c := by rw [← ByteArray.toList_eq]; exact hc
    have HCB := Lib.hid hcb
    have hrs := read_rises (l := src.toList) (by omega)
    rw [hc] at hrs
    cases hR : readL src.toList with
    | no d e =>
      rw [hR] at hrs
      have HR := Lib.hid hR
      obtain ⟨⟨hd1, hd2⟩, he⟩ := hrs
      obtain rfl : e = 20 := by
        rcases he with h | h
        · exact h
        · have := h.2; rw [List.length_nil] at this; omega
      clear hR he hcb hc hls
      go_enter Tryd.func9, Tryd.ntmps9
      go_wp2_with (first
        | (go_at_call 24; refine (tokens_reads _ _ HL.out.len (by omega)).mono ?_; rw [HR.out]; rintro e w1 ⟨q1, c1, rfl, hrow, hb⟩; have HB1 := Lib.hid hb; simp only [Rd.toks, Rd.line, Rd.err, List.length_nil]; clear hrow hb)
        | (go_at_call 32; refine (Tryd.strings_Count_one _ _ _).mono ?_; rw [HCB.out]; rintro _ _ ⟨rfl, rfl⟩)
        | (go_at_call 19; refine (awake_any _ (HL.out.below HB1.out)).mono ?_; rintro e w2 ⟨rfl, hb⟩; have HB2 := Lib.hid (after HB1.out hb); clear hb))
      go_returns
      exact ⟨rfl, HB2.out⟩
    | ok xs =>
      rw [hR] at hrs
      obtain ⟨⟨hrose, hrise⟩, hlen⟩ := hrs
      rw [List.length_nil, hls] at hlen
      obtain ⟨nx, hnx⟩ : ∃ nx, xs.length = nx := ⟨_, rfl⟩
      have hnx3 : nx ≤ 3000 := by omega
      have HR := Lib.hid hR
      have HNX := Lib.hid hnx
      have HRO := Lib.hid hrose
      have HRI := Lib.hid hrise
      clear hR hrose hrise hlen hnx hcb hc hls
      obtain ⟨i1, gi, gz0, gz1, gz2⟩ := info_parts infoLine
      obtain ⟨i0, hi, hz0, hz1, hz2⟩ := info_parts infoTok
      go_enter Tryd.func9, Tryd.ntmps9
      go_wp2_with (first
        | (go_at_call 24; refine (tokens_reads _ _ HL.out.len (by omega)).mono ?_; rw [HR.out]; rintro e w1 ⟨q1, c1, rfl, hrow, hb⟩; have HB1 := Lib.hid hb; simp only [Rd.toks, HNX.out] at hrow; have HR1 := Lib.hid hrow; simp only [Rd.toks, Rd.line, Rd.err, HNX.out]; clear hrow hb)
        | (go_at_call 32; refine (Tryd.strings_Count_one _ _ _).mono ?_; rw [HCB.out]; rintro _ w1 ⟨rfl, rfl⟩)
        | (at_make; refine wpList_make_full _ rfl _ _ _ rfl w1.heap.size 35 i1 _ 2 Tryd.underlying33 gi gz0 gz1 .i64 .i64 _ _ (c + 1) rfl rfl (by omega) (by omega) (by rw [gz2]; omega) (by unfold maxLen; omega) (Nat.le_refl _) ?_; intro w2 hown hgrow; have HB2 := Lib.hid (below_append HB1.out HB1.out.size (World.ownsRow_nil w1 w.heap.size 27 4) hgrow); have HG := Lib.hid hgrow; have HO := Lib.hid hown; clear hown hgrow))
      have hR2 : w2.ownsRow w.heap.size 27 4 (.slice q1 nx c1) nx (tokCells xs) := HR1.out.kept HG.out (by cases (Value.slice q1 nx c1).ownBlock <;> simp)
      have hO : w2.ownsRow w1.heap.size 35 2 (.slice (some ⟨w1.heap.size, 0, none⟩) (c + 1) (c + 1)) (c + 1) (lineCells (List.replicate (c + 1) noLine)) := by
        have := HO.out
        rw [show ((Value.agg #[Value.int IntKind.i64 0, Value.slice none 0 0]).cells) = #[Value.int IntKind.i64 0, Value.slice none 0 0] from rfl, made_lines] at this
        exact this
      have hap : Apart (.slice q1 nx c1) (.slice (some ⟨w1.heap.size, 0, none⟩) (c + 1) (c + 1)) := apart_first HR1.out hO (Nat.le_refl _)
      have hgw : w.heap.size ≤ w1.heap.size := HB1.out.size
      have hO2 := own_leG hO hgw
      have H2 := Lib.hid hR2
      have HO2 := Lib.hid hO2
      have HAP := Lib.hid hap
      clear hR2 hO hap hO2
      go_loopw [53] (fun i wr => ∃ (k : Nat) (zs : List LineR), k ≤ nx ∧ i = .int .i64 k ∧ zs.length = c + 1 ∧
          wr.ownsRow w.heap.size 27 4 (.slice q1 nx c1) nx (tokCells xs) ∧ wr.ownsRow w.heap.size 35 2 (.slice (some ⟨w1.heap.size, 0, none⟩) (c + 1) (c + 1)) (c + 1) (lineCells zs) ∧
          Sorted w.heap.size wr (.slice q1 nx c1) (.slice (some ⟨w1.heap.size, 0, none⟩) (c + 1) (c + 1)) (xs.take k) zs ∧ Below w.heap.size w wr) (fun i _ => nx - (intOf i).toNat)
      case atStart =>
        refine ⟨0, List.replicate (c + 1) noLine, Nat.zero_le _, rfl, List.length_replicate, H2.out, HO2.out, ⟨fun z hz => ?_, fun j z hz => ?_, fun i j y z _ hy hz => ?_⟩, HB2.out⟩
        · obtain rfl := (List.mem_replicate.1 hz).2
          exact ⟨World.ownsRow_nil _ _ _ _, (Apart.nil _).symm, (Apart.nil _).symm⟩
        · obtain rfl := (List.mem_replicate.1 (List.mem_of_getElem? hz)).2
          exact ⟨rfl, rfl, rfl⟩
        · obtain rfl := (List.mem_replicate.1 (List.mem_of_getElem? hy)).2
          exact Apart.nil _
      case round =>
        obtain ⟨k, zs, hk, rfl, hzl, r1, r2, hsrt, hbel⟩ := hrel
        have HW := Lib.hid hbel
        have HZL := Lib.hid hzl
        have R1 := Lib.hid r1
        have R2 := Lib.hid r2
        have ST := Lib.hid hsrt
        clear hzl r1 r2 hsrt hbel
        by_cases hlt : k < nx
        · obtain ⟨x, hx⟩ := list_at (xs := xs) (k := k) (by rw [HNX.out]; exact hlt)
          have HXK := Lib.hid hx
          obtain ⟨hmay, hl1, hl2⟩ := HRO.out x (List.mem_of_getElem? hx)
          obtain ⟨ad, rfl, hax⟩ := (toks_of_row R1.out HNX.out).2 k x hx
          obtain ⟨x0, x1, x2, x3⟩ := hax
          have hblx := World.block_lt_of_cell? _ _ x0
          obtain ⟨xk, xl, xt, xn⟩ := x
          dsimp only at x0 x1 x2 x3 hl1 hl2
          obtain ⟨j, rfl⟩ : ∃ j : Nat, xl = (j : Int) + 1 := ⟨(xl - 1).toNat, by omega⟩
          have hjc : j < c + 1 := by omega
          have HMY := Lib.hid (show mayB xk xt xn = true from hmay)
          have hszx : xt.size ≤ 9223372036854775807 := may_size hmay
          have HSZ := Lib.hid hszx
          obtain ⟨z, hz⟩ := line_some HZL.out hjc
          have HZ := Lib.hid hz
          obtain ⟨hzd, hzx, hzn⟩ := ST.out.toks j z hz
          obtain ⟨hzr, hza, hzb⟩ := ST.out.rows z (List.mem_of_getElem? hz)
          have hal := Lib.hid ((Below.refl wr.heap.size wr).alloc (Nat.le_refl _) (.cells #[.int .u8 xk, .int .i64 ((j : Int) + 1), .string xt, .int .i64 xn] 27))
          have HB4 := Lib.hid (after HW.out hal.out)
          have hT6 : TkBox wr.heap.size ⟨xk, (j : Int) + 1, xt, xn⟩ (wr.alloc (.cells #[.int .u8 xk, .int .i64 ((j : Int) + 1), .string xt, .int .i64 xn] 27)) := World.alloc_heap_new wr _
          obtain ⟨t0, t1, t2, t3⟩ := hT6.cells
          clear hx hmay hz hT6 hszx
          go_upto_region 11 with fail
          go_cut [86] from 58 to 85 (fun v86 wx => v86 = .bool false ∧ Below wr.heap.size wr wx ∧ TkBox wr.heap.size ⟨xk, (j : Int) + 1, xt, xn⟩ wx)
          case first =>
            by_cases hk0 : k = 0
            · have hk0i : ¬ (0 : Int) < k := by omega
              clear hk0
              refine wp_region_held_drew (S := fun w' => w'.cell? ⟨wr.heap.size, 0, none⟩ = some (.int .u8 xk) ∧ w'.cell? ⟨wr.heap.size, 1, none⟩ = some (.int .i64 ((j : Int) + 1)) ∧ w'.cell? ⟨wr.heap.size, 2, none⟩ = some (.string xt) ∧ w'.cell? ⟨wr.heap.size, 3, none⟩ = some (.int .i64 xn)) (by kernel_rfl) (by exact ⟨t0, t1, t2, t3⟩) (fun hHeld => ?_)
              refine wpAnyH_take (i := 0) (v := ?_) (by simp only [List.getElem?_toArray, List.getElem?_cons_zero]; rfl) (by kernel_rfl) (by kernel_rfl) (by kernel_rfl) (by exact fun _ _ _ h => h) (Or.inl ⟨by rfl, ?_⟩) (by assumption) ?_
              rotate_left
              · (intro w' hSw; (try dsimp only at hSw); go_simp; try with_reducible rfl)
              try simp only [Act.put, List.setIfInBounds_toArray, List.set_cons_zero, List.set_cons_succ]
              refine wpAnyH_take (i := 1) (v := ?_) (by simp only [List.getElem?_toArray, List.getElem?_cons_zero, List.getElem?_cons_succ]; rfl) (by kernel_rfl) (by kernel_rfl) (by kernel_rfl) (by exact fun _ _ _ h => h) (Or.inl ⟨by rfl, ?_⟩) (by assumption) ?_
              rotate_left
              · (intro w' hSw; (try dsimp only at hSw); go_simp; try with_reducible rfl)
              try simp only [Act.put, List.setIfInBounds_toArray, List.set_cons_zero, List.set_cons_succ]
              refine wpAnyH_take (i := 2) (v := .bool false) (by simp only [List.getElem?_toArray, List.getElem?_cons_zero, List.getElem?_cons_succ]; rfl) (by kernel_rfl) (by kernel_rfl) (by kernel_rfl) (by exact fun _ _ _ h => h) (Or.inl ⟨by rfl, ?_⟩) (by assumption) ?_
              · (intro w' hSw; (try dsimp only at hSw); (try go_simp); first | done | omega | (simp; done) | (simp; omega))
              try simp only [Act.put, List.setIfInBounds_toArray, List.set_cons_zero, List.set_cons_succ]
              refine wpAnyH_take (i := 3) (v := ?_) (by simp only [List.getElem?_toArray, List.getElem?_cons_zero, List.getElem?_cons_succ]; rfl) (by kernel_rfl) (by kernel_rfl) (by kernel_rfl) (by exact fun _ _ _ h => h) (Or.inl ⟨by rfl, ?_⟩) (by assumption) ?_
              rotate_left
              · (intro w' hSw; (try dsimp only at hSw); go_simp; try with_reducible rfl)
              try simp only [Act.put, List.setIfInBounds_toArray, List.set_cons_zero, List.set_cons_succ]
              refine wpAnyH_take (i := 4) (v := ?_) (by simp only [List.getElem?_toArray, List.getElem?_cons_zero, List.getElem?_cons_succ]; rfl) (by kernel_rfl) (by kernel_rfl) (by kernel_rfl) (by exact fun _ _ _ h => h) (Or.inl ⟨by rfl, ?_⟩) (by assumption) ?_
              rotate_left
              · (intro w' hSw; (try dsimp only at hSw); go_simp; try with_reducible rfl)
              try simp only [Act.put, List.setIfInBounds_toArray, List.set_cons_zero, List.set_cons_succ]
              refine wpAnyH_take (i := 5) (v := ?_) (by simp only [List.getElem?_toArray, List.getElem?_cons_zero, List.getElem?_cons_succ]; rfl) (by kernel_rfl) (by kernel_rfl) (by kernel_rfl) (by exact fun _ _ _ h => h) (Or.inl ⟨by rfl, ?_⟩) (by assumption) ?_
              rotate_left
              · (intro w' hSw; (try dsimp only at hSw); go_simp; try with_reducible rfl)
              try simp only [Act.put, List.setIfInBounds_toArray, List.set_cons_zero, List.set_cons_succ]
              refine wpAnyH_take (i := 6) (v := ?_) (by simp only [List.getElem?_toArray, List.getElem?_cons_zero, List.getElem?_cons_succ]; rfl) (by kernel_rfl) (by kernel_rfl) (by kernel_rfl) (by exact fun _ _ _ h => h) (Or.inl ⟨by rfl, ?_⟩) (by assumption) ?_
              rotate_left
              · (intro w' hSw; (try dsimp only at hSw); go_simp; try with_reducible rfl)
              try simp only [Act.put, List.setIfInBounds_toArray, List.set_cons_zero, List.set_cons_succ]
              refine wpAnyH_take (i := 7) (v := .bool false) (by simp only [List.getElem?_toArray, List.getElem?_cons_zero, List.getElem?_cons_succ]; rfl) (by kernel_rfl) (by kernel_rfl) (by kernel_rfl) (by exact fun _ _ _ h => h) (Or.inl ⟨by rfl, ?_⟩) (by assumption) ?_
              · (intro w' hSw; (try dsimp only at hSw); (try go_simp); first | done | omega | (simp; done) | (simp; omega))
              try simp only [Act.put, List.setIfInBounds_toArray, List.set_cons_zero, List.set_cons_succ]
              refine wpAnyH_take (i := 8) (v := ?_) (by simp only [List.getElem?_toArray, List.getElem?_cons_zero, List.getElem?_cons_succ]; rfl) (by kernel_rfl) (by kernel_rfl) (by kernel_rfl) (by exact fun _ _ _ h => h) (Or.inl ⟨by rfl, ?_⟩) (by assumption) ?_
              rotate_left
              · (intro w' hSw; (try dsimp only at hSw); go_simp; try with_reducible rfl)
              try simp only [Act.put, List.setIfInBounds_toArray, List.set_cons_zero, List.set_cons_succ]
              refine wpAnyH_take (i := 9) (v := ?_) (by simp only [List.getElem?_toArray, List.getElem?_cons_zero, List.getElem?_cons_succ]; rfl) (by kernel_rfl) (by kernel_rfl) (by kernel_rfl) (by exact fun _ _ _ h => h) (Or.inl ⟨by rfl, ?_⟩) (by assumption) ?_
              rotate_left
              · (intro w' hSw; (try dsimp only at hSw); go_simp; try with_reducible rfl)
              try simp only [Act.put, List.setIfInBounds_toArray, List.set_cons_zero, List.set_cons_succ]
              refine wpAnyH_take (i := 10) (v := ?_) (by simp only [List.getElem?_toArray, List.getElem?_cons_zero, List.getElem?_cons_succ]; rfl) (by kernel_rfl) (by kernel_rfl) (by kernel_rfl) (by exact fun _ _ _ h => h) (Or.inl ⟨by rfl, ?_⟩) (by assumption) ?_
              rotate_left
              · (intro w' hSw; (try dsimp only at hSw); go_simp; try with_reducible rfl)
              try simp only [Act.put, List.setIfInBounds_toArray, List.set_cons_zero, List.set_cons_succ]
              refine wpAnyH_take (i := 11) (v := .bool false) (by simp only [List.getElem?_toArray, List.getElem?_cons_zero, List.getElem?_cons_succ]; rfl) (by kernel_rfl) (by kernel_rfl) (by kernel_rfl) (by exact fun _ _ _ h => h) (Or.inl ⟨by rfl, ?_⟩) (by assumption) ?_
              · (intro w' hSw; (try dsimp only at hSw); (try go_simp); first | done | omega | (simp; done) | (simp; omega))
              try simp only [Act.put, List.setIfInBounds_toArray, List.set_cons_zero, List.set_cons_succ]
              refine wpAnyH_take (i := 12) (v := ?_) (by simp only [List.getElem?_toArray, List.getElem?_cons_zero, List.getElem?_cons_succ]; rfl) (by kernel_rfl) (by kernel_rfl) (by kernel_rfl) (by exact fun _ _ _ h => h) (Or.inl ⟨by rfl, ?_⟩) (by assumption) ?_
              rotate_left
              · (intro w' hSw; (try dsimp only at hSw); go_simp; try with_reducible rfl)
              try simp only [Act.put, List.setIfInBounds_toArray, List.set_cons_zero, List.set_cons_succ]
              refine wpAnyH_take (i := 13) (v := undef) (by simp only [List.getElem?_toArray, List.getElem?_cons_zero, List.getElem?_cons_succ]; rfl) (by kernel_rfl) (by kernel_rfl) (by kernel_rfl) (by exact fun _ _ _ h => h) (Or.inr ⟨by rfl, rfl⟩) (by assumption) ?_
              try simp only [Act.put, List.setIfInBounds_toArray, List.set_cons_zero, List.set_cons_succ]
              refine wpAnyH_take (i := 14) (v := undef) (by simp only [List.getElem?_toArray, List.getElem?_cons_zero, List.getElem?_cons_succ]; rfl) (by kernel_rfl) (by kernel_rfl) (by kernel_rfl) (by exact fun _ _ _ h => h) (Or.inr ⟨by rfl, rfl⟩) (by assumption) ?_
              try simp only [Act.put, List.setIfInBounds_toArray, List.set_cons_zero, List.set_cons_succ]
              refine wpAnyH_take (i := 15) (v := undef) (by simp only [List.getElem?_toArray, List.getElem?_cons_zero, List.getElem?_cons_succ]; rfl) (by kernel_rfl) (by kernel_rfl) (by kernel_rfl) (by exact fun _ _ _ h => h) (Or.inr ⟨by rfl, rfl⟩) (by assumption) ?_
              try simp only [Act.put, List.setIfInBounds_toArray, List.set_cons_zero, List.set_cons_succ]
              refine wpAnyH_take (i := 16) (v := undef) (by simp only [List.getElem?_toArray, List.getElem?_cons_zero, List.getElem?_cons_succ]; rfl) (by kernel_rfl) (by kernel_rfl) (by kernel_rfl) (by exact fun _ _ _ h => h) (Or.inr ⟨by rfl, rfl⟩) (by assumption) ?_
              try simp only [Act.put, List.setIfInBounds_toArray, List.set_cons_zero, List.set_cons_succ]
              refine wpAnyH_take (i := 17) (v := undef) (by simp only [List.getElem?_toArray, List.getElem?_cons_zero, List.getElem?_cons_succ]; rfl) (by kernel_rfl) (by kernel_rfl) (by kernel_rfl) (by exact fun _ _ _ h => h) (Or.inr ⟨by rfl, rfl⟩) (by assumption) ?_
              try simp only [Act.put, List.setIfInBounds_toArray, List.set_cons_zero, List.set_cons_succ]
              refine wpAnyH_take (i := 18) (v := undef) (by simp only [List.getElem?_toArray, List.getElem?_cons_zero, List.getElem?_cons_succ]; rfl) (by kernel_rfl) (by kernel_rfl) (by kernel_rfl) (by exact fun _ _ _ h => h) (Or.inr ⟨by rfl, rfl⟩) (by assumption) ?_
              try simp only [Act.put, List.setIfInBounds_toArray, List.set_cons_zero, List.set_cons_succ]
              refine wpAnyH_take (i := 19) (v := undef) (by simp only [List.getElem?_toArray, List.getElem?_cons_zero, List.getElem?_cons_succ]; rfl) (by kernel_rfl) (by kernel_rfl) (by kernel_rfl) (by exact fun _ _ _ h => h) (Or.inr ⟨by rfl, rfl⟩) (by assumption) ?_
              try simp only [Act.put, List.setIfInBounds_toArray, List.set_cons_zero, List.set_cons_succ]
              refine wpAnyH_take (i := 20) (v := undef) (by simp only [List.getElem?_toArray, List.getElem?_cons_zero, List.getElem?_cons_succ]; rfl) (by kernel_rfl) (by kernel_rfl) (by kernel_rfl) (by exact fun _ _ _ h => h) (Or.inr ⟨by rfl, rfl⟩) (by assumption) ?_
              try simp only [Act.put, List.setIfInBounds_toArray, List.set_cons_zero, List.set_cons_succ]
              refine wpAnyH_take (i := 21) (v := undef) (by simp only [List.getElem?_toArray, List.getElem?_cons_zero, List.getElem?_cons_succ]; rfl) (by kernel_rfl) (by kernel_rfl) (by kernel_rfl) (by exact fun _ _ _ h => h) (Or.inr ⟨by rfl, rfl⟩) (by assumption) ?_
              try simp only [Act.put, List.setIfInBounds_toArray, List.set_cons_zero, List.set_cons_succ]
              refine wpAnyH_take (i := 22) (v := ?_) (by simp only [List.getElem?_toArray, List.getElem?_cons_zero, List.getElem?_cons_succ]; rfl) (by kernel_rfl) (by kernel_rfl) (by kernel_rfl) (by exact fun _ _ _ h => h) (Or.inl ⟨by rfl, ?_⟩) (by assumption) ?_
              rotate_left
              · (intro w' hSw; (try dsimp only at hSw); go_simp; try with_reducible rfl)
              try simp only [Act.put, List.setIfInBounds_toArray, List.set_cons_zero, List.set_cons_succ]
              refine wpAnyH_take (i := 23) (v := ?_) (by simp only [List.getElem?_toArray, List.getElem?_cons_zero, List.getElem?_cons_succ]; rfl) (by kernel_rfl) (by kernel_rfl) (by kernel_rfl) (by exact fun _ _ _ h => h) (Or.inl ⟨by rfl, ?_⟩) (by assumption) ?_
              rotate_left
              · (intro w' hSw; (try dsimp only at hSw); go_simp; try with_reducible rfl)
              try simp only [Act.put, List.setIfInBounds_toArray, List.set_cons_zero, List.set_cons_succ]
              refine wpAnyH_take (i := 24) (v := ?_) (by simp only [List.getElem?_toArray, List.getElem?_cons_zero, List.getElem?_cons_succ]; rfl) (by kernel_rfl) (by kernel_rfl) (by kernel_rfl) (by exact fun _ _ _ h => h) (Or.inl ⟨by rfl, ?_⟩) (by assumption) ?_
              rotate_left
              · (intro w' hSw; (try dsimp only at hSw); go_simp; try with_reducible rfl)
              try simp only [Act.put, List.setIfInBounds_toArray, List.set_cons_zero, List.set_cons_succ]
              refine wpAnyH_take (i := 25) (v := ?_) (by simp only [List.getElem?_toArray, List.getElem?_cons_zero, List.getElem?_cons_succ]; rfl) (by kernel_rfl) (by kernel_rfl) (by kernel_rfl) (by exact fun _ _ _ h => h) (Or.inl ⟨by rfl, ?_⟩) (by assumption) ?_
              rotate_left
              · (intro w' hSw; (try dsimp only at hSw); go_simp; try with_reducible rfl)
              try simp only [Act.put, List.setIfInBounds_toArray, List.set_cons_zero, List.set_cons_succ]
              refine wpAnyH_ready (rs := [26]) (by kernel_rfl) (by simp) ?_
              refine AllReadyH.cons (by simp only [List.getElem?_toArray, List.getElem?_cons_zero, List.getElem?_cons_succ]; rfl) (fun K hK => ?_) (AllReadyH.nil)
              go_simp
              refine (may_any _ _ _ _ _ HSZ.out).mono ?_
              rw [HMY.out]
              rintro e w5 ⟨rfl, hb⟩
              go_wp2_with fail
              refine hK.out _ _ ⟨keepA' hb hHeld.1, keepA' hb hHeld.2.1, keepA' hb hHeld.2.2.1, keepA' hb hHeld.2.2.2⟩ (fun hNext => ?_)
              clear hHeld hK K
              have hHeld := hNext
              clear hNext
              try simp only [Act.put, List.setIfInBounds_toArray, List.set_cons_zero, List.set_cons_succ]
              have HB5 := Lib.hid (after (Below.drew HB4.out) hb)
              have HBX := Lib.hid hb
              clear hb
              refine wpAnyH_take (i := 27) (v := ?_) (by simp only [List.getElem?_toArray, List.getElem?_cons_zero, List.getElem?_cons_succ]; rfl) (by kernel_rfl) (by kernel_rfl) (by kernel_rfl) (by exact fun _ _ _ h => h) (Or.inl ⟨by rfl, ?_⟩) (by assumption) ?_
              rotate_left
              · (intro w' hSw; (try dsimp only at hSw); go_simp; try with_reducible rfl)
              try simp only [Act.put, List.setIfInBounds_toArray, List.set_cons_zero, List.set_cons_succ]
              refine wpAnyH_take (i := 28) (v := ?_) (by simp only [List.getElem?_toArray, List.getElem?_cons_zero, List.getElem?_cons_succ]; rfl) (by kernel_rfl) (by kernel_rfl) (by kernel_rfl) (by exact fun _ _ _ h => h) (Or.inl ⟨by rfl, ?_⟩) (by assumption) ?_
              rotate_left
              · (intro w' hSw; (try dsimp only at hSw); go_simp; try with_reducible rfl)
              try simp only [Act.put, List.setIfInBounds_toArray, List.set_cons_zero, List.set_cons_succ]
              refine wpAnyH_done (by kernel_rfl) ?_ _
              clear hHeld
              go_wp2_with fail
              go_meet
              exact ⟨rfl, after (Below.drew hal.out) HBX.out, (HBX.out.block wr.heap.size (by simp [World.drew])).trans (World.alloc_heap_new wr _)⟩
            · obtain ⟨k', hk'⟩ : ∃ k' : Nat, k = k' + 1 := ⟨k - 1, by omega⟩
              have hxk := HXK.out
              rw [hk'] at hxk
              have hknx : k' < nx := by omega
              obtain ⟨y, hy⟩ := list_at (xs := xs) (k := k') (by rw [HNX.out]; exact hknx)
              have hyx := HRI.out k' y _ hy hxk
              obtain ⟨ad2, had, hay⟩ := (toks_of_row R1.out HNX.out).2 k' y hy
              obtain rfl : ad = ad2 := Option.some.inj had
              have y1 := Lib.cell?_alloc_some (.cells #[.int .u8 xk, .int .i64 ((j : Int) + 1), .string xt, .int .i64 xn] 27) hay.c1
              obtain ⟨yk, yl, yt, yn⟩ := y
              dsimp only at y1 hyx
              have hwk : IntKind.i64.wrap ((k : Int) - 1) = k' := by rw [IntWalk.i64_in _ (by omega)]; omega
              have hk0i : (0 : Int) < k := by omega
              clear had hay hy hxk hk0 hk'
              refine wp_region_held_drew (S := fun w' => w'.cell? ⟨wr.heap.size, 0, none⟩ = some (.int .u8 xk) ∧ w'.cell? ⟨wr.heap.size, 1, none⟩ = some (.int .i64 ((j : Int) + 1)) ∧ w'.cell? ⟨wr.heap.size, 2, none⟩ = some (.string xt) ∧ w'.cell? ⟨wr.heap.size, 3, none⟩ = some (.int .i64 xn) ∧ w'.cell? ⟨(ad.add (k' * 4)).block, (ad.add (k' * 4)).off + 1, none⟩ = some (.int .i64 yl)) (by kernel_rfl) (by exact ⟨t0, t1, t2, t3, y1⟩) (fun hHeld => ?_)
              refine wpAnyH_take (i := 0) (v := ?_) (by simp only [List.getElem?_toArray, List.getElem?_cons_zero]; rfl) (by kernel_rfl) (by kernel_rfl) (by kernel_rfl) (by exact fun _ _ _ h => h) (Or.inl ⟨by rfl, ?_⟩) (by assumption) ?_
              rotate_left
              · (intro w' hSw; (try dsimp only at hSw); go_simp; try with_reducible rfl)
              try simp only [Act.put, List.setIfInBounds_toArray, List.set_cons_zero, List.set_cons_succ]
              refine wpAnyH_take (i := 1) (v := ?_) (by simp only [List.getElem?_toArray, List.getElem?_cons_zero, List.getElem?_cons_succ]; rfl) (by kernel_rfl) (by kernel_rfl) (by kernel_rfl) (by exact fun _ _ _ h => h) (Or.inl ⟨by rfl, ?_⟩) (by assumption) ?_
              rotate_left
              · (intro w' hSw; (try dsimp only at hSw); go_simp; try with_reducible rfl)
              try simp only [Act.put, List.setIfInBounds_toArray, List.set_cons_zero, List.set_cons_succ]
              refine wpAnyH_take (i := 2) (v := .bool false) (by simp only [List.getElem?_toArray, List.getElem?_cons_zero, List.getElem?_cons_succ]; rfl) (by kernel_rfl) (by kernel_rfl) (by kernel_rfl) (by exact fun _ _ _ h => h) (Or.inl ⟨by rfl, ?_⟩) (by assumption) ?_
              · (intro w' hSw; (try dsimp only at hSw); (try go_simp); first | done | omega | (simp; done) | (simp; omega))
              try simp only [Act.put, List.setIfInBounds_toArray, List.set_cons_zero, List.set_cons_succ]
              refine wpAnyH_take (i := 3) (v := ?_) (by simp only [List.getElem?_toArray, List.getElem?_cons_zero, List.getElem?_cons_succ]; rfl) (by kernel_rfl) (by kernel_rfl) (by kernel_rfl) (by exact fun _ _ _ h => h) (Or.inl ⟨by rfl, ?_⟩) (by assumption) ?_
              rotate_left
              · (intro w' hSw; (try dsimp only at hSw); go_simp; try with_reducible rfl)
              try simp only [Act.put, List.setIfInBounds_toArray, List.set_cons_zero, List.set_cons_succ]
              refine wpAnyH_take (i := 4) (v := ?_) (by simp only [List.getElem?_toArray, List.getElem?_cons_zero, List.getElem?_cons_succ]; rfl) (by kernel_rfl) (by kernel_rfl) (by kernel_rfl) (by exact fun _ _ _ h => h) (Or.inl ⟨by rfl, ?_⟩) (by assumption) ?_
              rotate_left
              · (intro w' hSw; (try dsimp only at hSw); go_simp; try with_reducible rfl)
              try simp only [Act.put, List.setIfInBounds_toArray, List.set_cons_zero, List.set_cons_succ]
              refine wpAnyH_take (i := 5) (v := ?_) (by simp only [List.getElem?_toArray, List.getElem?_cons_zero, List.getElem?_cons_succ]; rfl) (by kernel_rfl) (by kernel_rfl) (by kernel_rfl) (by exact fun _ _ _ h => h) (Or.inl ⟨by rfl, ?_⟩) (by assumption) ?_
              rotate_left
              · (intro w' hSw; (try dsimp only at hSw); go_simp; try with_reducible rfl)
              try simp only [Act.put, List.setIfInBounds_toArray, List.set_cons_zero, List.set_cons_succ]
              refine wpAnyH_take (i := 6) (v := ?_) (by simp only [List.getElem?_toArray, List.getElem?_cons_zero, List.getElem?_cons_succ]; rfl) (by kernel_rfl) (by kernel_rfl) (by kernel_rfl) (by exact fun _ _ _ h => h) (Or.inl ⟨by rfl, ?_⟩) (by assumption) ?_
              rotate_left
              · (intro w' hSw; (try dsimp only at hSw); go_simp; try with_reducible rfl)
              try simp only [Act.put, List.setIfInBounds_toArray, List.set_cons_zero, List.set_cons_succ]
              refine wpAnyH_take (i := 7) (v := .bool false) (by simp only [List.getElem?_toArray, List.getElem?_cons_zero, List.getElem?_cons_succ]; rfl) (by kernel_rfl) (by kernel_rfl) (by kernel_rfl) (by exact fun _ _ _ h => h) (Or.inl ⟨by rfl, ?_⟩) (by assumption) ?_
              · (intro w' hSw; (try dsimp only at hSw); (try go_simp); first | done | omega | (simp; done) | (simp; omega))
              try simp only [Act.put, List.setIfInBounds_toArray, List.set_cons_zero, List.set_cons_succ]
              refine wpAnyH_take (i := 8) (v := ?_) (by simp only [List.getElem?_toArray, List.getElem?_cons_zero, List.getElem?_cons_succ]; rfl) (by kernel_rfl) (by kernel_rfl) (by kernel_rfl) (by exact fun _ _ _ h => h) (Or.inl ⟨by rfl, ?_⟩) (by assumption) ?_
              rotate_left
              · (intro w' hSw; (try dsimp only at hSw); go_simp; try with_reducible rfl)
              try simp only [Act.put, List.setIfInBounds_toArray, List.set_cons_zero, List.set_cons_succ]
              refine wpAnyH_take (i := 9) (v := ?_) (by simp only [List.getElem?_toArray, List.getElem?_cons_zero, List.getElem?_cons_succ]; rfl) (by kernel_rfl) (by kernel_rfl) (by kernel_rfl) (by exact fun _ _ _ h => h) (Or.inl ⟨by rfl, ?_⟩) (by assumption) ?_
              rotate_left
              · (intro w' hSw; (try dsimp only at hSw); go_simp; try with_reducible rfl)
              try simp only [Act.put, List.setIfInBounds_toArray, List.set_cons_zero, List.set_cons_succ]
              refine wpAnyH_take (i := 10) (v := ?_) (by simp only [List.getElem?_toArray, List.getElem?_cons_zero, List.getElem?_cons_succ]; rfl) (by kernel_rfl) (by kernel_rfl) (by kernel_rfl) (by exact fun _ _ _ h => h) (Or.inl ⟨by rfl, ?_⟩) (by assumption) ?_
              rotate_left
              · (intro w' hSw; (try dsimp only at hSw); go_simp; try with_reducible rfl)
              try simp only [Act.put, List.setIfInBounds_toArray, List.set_cons_zero, List.set_cons_succ]
              refine wpAnyH_take (i := 11) (v := .bool true) (by simp only [List.getElem?_toArray, List.getElem?_cons_zero, List.getElem?_cons_succ]; rfl) (by kernel_rfl) (by kernel_rfl) (by kernel_rfl) (by exact fun _ _ _ h => h) (Or.inl ⟨by rfl, ?_⟩) (by assumption) ?_
              · (intro w' hSw; (try dsimp only at hSw); (try go_simp); first | done | omega | (simp; done) | (simp; omega))
              try simp only [Act.put, List.setIfInBounds_toArray, List.set_cons_zero, List.set_cons_succ]
              refine wpAnyH_take (i := 12) (v := ?_) (by simp only [List.getElem?_toArray, List.getElem?_cons_zero, List.getElem?_cons_succ]; rfl) (by kernel_rfl) (by kernel_rfl) (by kernel_rfl) (by exact fun _ _ _ h => h) (Or.inl ⟨by rfl, ?_⟩) (by assumption) ?_
              rotate_left
              · (intro w' hSw; (try dsimp only at hSw); go_simp; try with_reducible rfl)
              try simp only [Act.put, List.setIfInBounds_toArray, List.set_cons_zero, List.set_cons_succ]
              refine wpAnyH_take (i := 13) (v := ?_) (by simp only [List.getElem?_toArray, List.getElem?_cons_zero, List.getElem?_cons_succ]; rfl) (by kernel_rfl) (by kernel_rfl) (by kernel_rfl) (by exact fun _ _ _ h => h) (Or.inl ⟨by rfl, ?_⟩) (by assumption) ?_
              rotate_left
              · (intro w' hSw; (try dsimp only at hSw); go_simp; try with_reducible rfl)
              try simp only [Act.put, List.setIfInBounds_toArray, List.set_cons_zero, List.set_cons_succ]
              refine wpAnyH_take (i := 14) (v := ?_) (by simp only [List.getElem?_toArray, List.getElem?_cons_zero, List.getElem?_cons_succ]; rfl) (by kernel_rfl) (by kernel_rfl) (by kernel_rfl) (by exact fun _ _ _ h => h) (Or.inl ⟨by rfl, ?_⟩) (by assumption) ?_
              rotate_left
              · (intro w' hSw; (try dsimp only at hSw); go_simp; try with_reducible rfl)
              try simp only [Act.put, List.setIfInBounds_toArray, List.set_cons_zero, List.set_cons_succ]
              refine wpAnyH_take (i := 15) (v := ?_) (by simp only [List.getElem?_toArray, List.getElem?_cons_zero, List.getElem?_cons_succ]; rfl) (by kernel_rfl) (by kernel_rfl) (by kernel_rfl) (by exact fun _ _ _ h => h) (Or.inl ⟨by rfl, ?_⟩) (by assumption) ?_
              rotate_left
              · (intro w' hSw; (try dsimp only at hSw); go_simp; try with_reducible rfl)
              try simp only [Act.put, List.setIfInBounds_toArray, List.set_cons_zero, List.set_cons_succ]
              refine wpAnyH_take (i := 16) (v := ?_) (by simp only [List.getElem?_toArray, List.getElem?_cons_zero, List.getElem?_cons_succ]; rfl) (by kernel_rfl) (by kernel_rfl) (by kernel_rfl) (by exact fun _ _ _ h => h) (Or.inl ⟨by rfl, ?_⟩) (by assumption) ?_
              rotate_left
              · (intro w' hSw; (try dsimp only at hSw); go_simp; try with_reducible rfl)
              try simp only [Act.put, List.setIfInBounds_toArray, List.set_cons_zero, List.set_cons_succ]
              refine wpAnyH_take (i := 17) (v := .int .i64 k') (by simp only [List.getElem?_toArray, List.getElem?_cons_zero, List.getElem?_cons_succ]; rfl) (by kernel_rfl) (by kernel_rfl) (by kernel_rfl) (by exact fun _ _ _ h => h) (Or.inl ⟨by rfl, ?_⟩) (by assumption) ?_
              · (intro w' hSw; (try dsimp only at hSw); (try go_simp); first | done | (rw [hwk]) | (simp [hwk]; done) | (simp; omega))
              try simp only [Act.put, List.setIfInBounds_toArray, List.set_cons_zero, List.set_cons_succ]
              refine wpAnyH_take (i := 18) (v := ?_) (by simp only [List.getElem?_toArray, List.getElem?_cons_zero, List.getElem?_cons_succ]; rfl) (by kernel_rfl) (by kernel_rfl) (by kernel_rfl) (by exact fun _ _ _ h => h) (Or.inl ⟨by rfl, ?_⟩) (by assumption) ?_
              rotate_left
              · (intro w' hSw; (try dsimp only at hSw); go_simp; try with_reducible rfl)
              try simp only [Act.put, List.setIfInBounds_toArray, List.set_cons_zero, List.set_cons_succ]
              refine wpAnyH_take (i := 19) (v := ?_) (by simp only [List.getElem?_toArray, List.getElem?_cons_zero, List.getElem?_cons_succ]; rfl) (by kernel_rfl) (by kernel_rfl) (by kernel_rfl) (by exact fun _ _ _ h => h) (Or.inl ⟨by rfl, ?_⟩) (by assumption) ?_
              rotate_left
              · (intro w' hSw; (try dsimp only at hSw); go_simp; try with_reducible rfl)
              try simp only [Act.put, List.setIfInBounds_toArray, List.set_cons_zero, List.set_cons_succ]
              refine wpAnyH_take (i := 20) (v := ?_) (by simp only [List.getElem?_toArray, List.getElem?_cons_zero, List.getElem?_cons_succ]; rfl) (by kernel_rfl) (by kernel_rfl) (by kernel_rfl) (by exact fun _ _ _ h => h) (Or.inl ⟨by rfl, ?_⟩) (by assumption) ?_
              rotate_left
              · (intro w' hSw; (try dsimp only at hSw); go_simp; try with_reducible rfl)
              try simp only [Act.put, List.setIfInBounds_toArray, List.set_cons_zero, List.set_cons_succ]
              refine wpAnyH_take (i := 21) (v := .bool false) (by simp only [List.getElem?_toArray, List.getElem?_cons_zero, List.getElem?_cons_succ]; rfl) (by kernel_rfl) (by kernel_rfl) (by kernel_rfl) (by exact fun _ _ _ h => h) (Or.inl ⟨by rfl, ?_⟩) (by assumption) ?_
              · (intro w' hSw; (try dsimp only at hSw); (try go_simp); first | done | omega | (simp; done) | (simp; omega))
              try simp only [Act.put, List.setIfInBounds_toArray, List.set_cons_zero, List.set_cons_succ]
              refine wpAnyH_take (i := 22) (v := ?_) (by simp only [List.getElem?_toArray, List.getElem?_cons_zero, List.getElem?_cons_succ]; rfl) (by kernel_rfl) (by kernel_rfl) (by kernel_rfl) (by exact fun _ _ _ h => h) (Or.inl ⟨by rfl, ?_⟩) (by assumption) ?_
              rotate_left
              · (intro w' hSw; (try dsimp only at hSw); go_simp; try with_reducible rfl)
              try simp only [Act.put, List.setIfInBounds_toArray, List.set_cons_zero, List.set_cons_succ]
              refine wpAnyH_take (i := 23) (v := ?_) (by simp only [List.getElem?_toArray, List.getElem?_cons_zero, List.getElem?_cons_succ]; rfl) (by kernel_rfl) (by kernel_rfl) (by kernel_rfl) (by exact fun _ _ _ h => h) (Or.inl ⟨by rfl, ?_⟩) (by assumption) ?_
              rotate_left
              · (intro w' hSw; (try dsimp only at hSw); go_simp; try with_reducible rfl)
              try simp only [Act.put, List.setIfInBounds_toArray, List.set_cons_zero, List.set_cons_succ]
              refine wpAnyH_take (i := 24) (v := ?_) (by simp only [List.getElem?_toArray, List.getElem?_cons_zero, List.getElem?_cons_succ]; rfl) (by kernel_rfl) (by kernel_rfl) (by kernel_rfl) (by exact fun _ _ _ h => h) (Or.inl ⟨by rfl, ?_⟩) (by assumption) ?_
              rotate_left
              · (intro w' hSw; (try dsimp only at hSw); go_simp; try with_reducible rfl)
              try simp only [Act.put, List.setIfInBounds_toArray, List.set_cons_zero, List.set_cons_succ]
              refine wpAnyH_take (i := 25) (v := ?_) (by simp only [List.getElem?_toArray, List.getElem?_cons_zero, List.getElem?_cons_succ]; rfl) (by kernel_rfl) (by kernel_rfl) (by kernel_rfl) (by exact fun _ _ _ h => h) (Or.inl ⟨by rfl, ?_⟩) (by assumption) ?_
              rotate_left
              · (intro w' hSw; (try dsimp only at hSw); go_simp; try with_reducible rfl)
              try simp only [Act.put, List.setIfInBounds_toArray, List.set_cons_zero, List.set_cons_succ]
              refine wpAnyH_ready (rs := [26]) (by kernel_rfl) (by simp) ?_
              refine AllReadyH.cons (by simp only [List.getElem?_toArray, List.getElem?_cons_zero, List.getElem?_cons_succ]; rfl) (fun K hK => ?_) (AllReadyH.nil)
              go_simp
              refine (may_any _ _ _ _ _ HSZ.out).mono ?_
              rw [HMY.out]
              rintro e w5 ⟨rfl, hb⟩
              go_wp2_with fail
              refine hK.out _ _ ⟨keepA' hb hHeld.1, keepA' hb hHeld.2.1, keepA' hb hHeld.2.2.1, keepA' hb hHeld.2.2.2.1, keepA' hb hHeld.2.2.2.2⟩ (fun hNext => ?_)
              clear hHeld hK K
              have hHeld := hNext
              clear hNext
              try simp only [Act.put, List.setIfInBounds_toArray, List.set_cons_zero, List.set_cons_succ]
              have HB5 := Lib.hid (after (Below.drew HB4.out) hb)
              have HBX := Lib.hid hb
              clear hb
              refine wpAnyH_take (i := 27) (v := ?_) (by simp only [List.getElem?_toArray, List.getElem?_cons_zero, List.getElem?_cons_succ]; rfl) (by kernel_rfl) (by kernel_rfl) (by kernel_rfl) (by exact fun _ _ _ h => h) (Or.inl ⟨by rfl, ?_⟩) (by assumption) ?_
              rotate_left
              · (intro w' hSw; (try dsimp only at hSw); go_simp; try with_reducible rfl)
              try simp only [Act.put, List.setIfInBounds_toArray, List.set_cons_zero, List.set_cons_succ]
              refine wpAnyH_take (i := 28) (v := ?_) (by simp only [List.getElem?_toArray, List.getElem?_cons_zero, List.getElem?_cons_succ]; rfl) (by kernel_rfl) (by kernel_rfl) (by kernel_rfl) (by exact fun _ _ _ h => h) (Or.inl ⟨by rfl, ?_⟩) (by assumption) ?_
              rotate_left
              · (intro w' hSw; (try dsimp only at hSw); go_simp; try with_reducible rfl)
              try simp only [Act.put, List.setIfInBounds_toArray, List.set_cons_zero, List.set_cons_succ]
              refine wpAnyH_done (by kernel_rfl) ?_ _
              clear hHeld
              go_wp2_with fail
              go_meet
              exact ⟨rfl, after (Below.drew hal.out) HBX.out, (HBX.out.block wr.heap.size (by simp [World.drew])).trans (World.alloc_heap_new wr _)⟩
          case rest =>
            obtain ⟨rfl, hbx, hbox⟩ := hcut
            have HWC := Lib.hid (after HW.out hbx)
            have R1c := Lib.hid (row_below R1.out hbx)
            have R2c := Lib.hid (row_below R2.out hbx)
            have STc := Lib.hid (ST.out.below hbx)
            have hzrc := Lib.hid (row_below hzr hbx)
            obtain ⟨b0, b1, b2, b3⟩ := hbox.cells
            have zc : wc.cell? ⟨w1.heap.size, j * 2 + 1, none⟩ = some (.slice z.p z.n z.cp) := by
              have := R2c.out.cells (g := w1.heap.size) rfl _ _ (lineCells_at zs j z HZ.out).2
              rw [addr_at] at this
              exact this
            have hgc : w1.heap.size < wc.heap.size := World.block_lt_of_cell? _ _ zc
            have hzn3 : z.n ≤ 3000 := by
              rw [← hzn, hzx]
              unfold lineToks
              refine Nat.le_trans (List.length_filter_le _ _) ?_
              rw [List.length_take, HNX.out]; omega
            have hgne : wr.heap.size ≠ w1.heap.size := by have := own_lt R2.out (g := w1.heap.size) rfl; omega
            have hblc : wr.heap.size < wc.heap.size := World.block_lt_of_cell? _ _ b0
            have hjci : (j : Int) < (c : Int) + 1 := by omega
            have hwj : IntKind.i64.wrap (j : Int) = j := IntWalk.i64_in _ (by omega)
            have hbne : (zval z).ownBlock ≠ some wr.heap.size := fun e => by have := own_lt hzr e; omega
            have HZB := Lib.hid hzb
            have HBN := Lib.hid hbne
            have hws := HWC.out.size
            clear hbx hbox hzr hzb hza hbne t0 t1 t2 t3
            go_upto_region 13 with fail
            refine wp_region_held_drew (S := fun w' => w'.cell? ⟨wr.heap.size, 0, none⟩ = some (.int .u8 xk) ∧ w'.cell? ⟨wr.heap.size, 1, none⟩ = some (.int .i64 ((j : Int) + 1)) ∧ w'.cell? ⟨wr.heap.size, 2, none⟩ = some (.string xt) ∧ w'.cell? ⟨wr.heap.size, 3, none⟩ = some (.int .i64 xn)) (by kernel_rfl) (by exact ⟨b0, b1, b2, b3⟩) (fun hHeld => ?_)
            refine wpAnyH_take (i := 0) (v := ?_) (by simp only [List.getElem?_toArray, List.getElem?_cons_zero]; rfl) (by kernel_rfl) (by kernel_rfl) (by kernel_rfl) (by exact fun _ _ _ h => h) (Or.inl ⟨by rfl, ?_⟩) (by assumption) ?_
            rotate_left
            · (intro w' hSw; (try dsimp only at hSw); go_simp; try with_reducible rfl)
            try simp only [Act.put, List.setIfInBounds_toArray, List.set_cons_zero, List.set_cons_succ]
            refine wpAnyH_take (i := 1) (v := ?_) (by simp only [List.getElem?_toArray, List.getElem?_cons_zero, List.getElem?_cons_succ]; rfl) (by kernel_rfl) (by kernel_rfl) (by kernel_rfl) (by exact fun _ _ _ h => h) (Or.inl ⟨by rfl, ?_⟩) (by assumption) ?_
            rotate_left
            · (intro w' hSw; (try dsimp only at hSw); go_simp; try with_reducible rfl)
            try simp only [Act.put, List.setIfInBounds_toArray, List.set_cons_zero, List.set_cons_succ]
            refine wpAnyH_take (i := 2) (v := ?_) (by simp only [List.getElem?_toArray, List.getElem?_cons_zero, List.getElem?_cons_succ]; rfl) (by kernel_rfl) (by kernel_rfl) (by kernel_rfl) (by exact fun _ _ _ h => h) (Or.inl ⟨by rfl, ?_⟩) (by assumption) ?_
            rotate_left
            · (intro w' hSw; (try dsimp only at hSw); go_simp; try with_reducible rfl)
            try simp only [Act.put, List.setIfInBounds_toArray, List.set_cons_zero, List.set_cons_succ]
            refine wpAnyH_take (i := 3) (v := .int .i64 j) (by simp only [List.getElem?_toArray, List.getElem?_cons_zero, List.getElem?_cons_succ]; rfl) (by kernel_rfl) (by kernel_rfl) (by kernel_rfl) (by exact fun _ _ _ h => h) (Or.inl ⟨by rfl, ?_⟩) (by assumption) ?_
            · (intro w' hSw; (try dsimp only at hSw); (try go_simp); first | done | (rw [show ((j : Int) + 1 - 1) = j by omega, hwj]) | (rw [hwj]) | (simp; omega))
            try simp only [Act.put, List.setIfInBounds_toArray, List.set_cons_zero, List.set_cons_succ]
            refine wpAnyH_take (i := 4) (v := ?_) (by simp only [List.getElem?_toArray, List.getElem?_cons_zero, List.getElem?_cons_succ]; rfl) (by kernel_rfl) (by kernel_rfl) (by kernel_rfl) (by exact fun _ _ _ h => h) (Or.inl ⟨by rfl, ?_⟩) (by assumption) ?_
            rotate_left
            · (intro w' hSw; (try dsimp only at hSw); go_simp; try with_reducible rfl)
            try simp only [Act.put, List.setIfInBounds_toArray, List.set_cons_zero, List.set_cons_succ]
            refine wpAnyH_take (i := 5) (v := ?_) (by simp only [List.getElem?_toArray, List.getElem?_cons_zero, List.getElem?_cons_succ]; rfl) (by kernel_rfl) (by kernel_rfl) (by kernel_rfl) (by exact fun _ _ _ h => h) (Or.inl ⟨by rfl, ?_⟩) (by assumption) ?_
            rotate_left
            · (intro w' hSw; (try dsimp only at hSw); go_simp; try with_reducible rfl)
            try simp only [Act.put, List.setIfInBounds_toArray, List.set_cons_zero, List.set_cons_succ]
            refine wpAnyH_take (i := 6) (v := ?_) (by simp only [List.getElem?_toArray, List.getElem?_cons_zero, List.getElem?_cons_succ]; rfl) (by kernel_rfl) (by kernel_rfl) (by kernel_rfl) (by exact fun _ _ _ h => h) (Or.inl ⟨by rfl, ?_⟩) (by assumption) ?_
            rotate_left
            · (intro w' hSw; (try dsimp only at hSw); go_simp; try with_reducible rfl)
            try simp only [Act.put, List.setIfInBounds_toArray, List.set_cons_zero, List.set_cons_succ]
            refine wpAnyH_take (i := 7) (v := .int .i64 j) (by simp only [List.getElem?_toArray, List.getElem?_cons_zero, List.getElem?_cons_succ]; rfl) (by kernel_rfl) (by kernel_rfl) (by kernel_rfl) (by exact fun _ _ _ h => h) (Or.inl ⟨by rfl, ?_⟩) (by assumption) ?_
            · (intro w' hSw; (try dsimp only at hSw); (try go_simp); first | done | (rw [show ((j : Int) + 1 - 1) = j by omega, hwj]) | (rw [hwj]) | (simp; omega))
            try simp only [Act.put, List.setIfInBounds_toArray, List.set_cons_zero, List.set_cons_succ]
            refine wpAnyH_take (i := 8) (v := ?_) (by simp only [List.getElem?_toArray, List.getElem?_cons_zero, List.getElem?_cons_succ]; rfl) (by kernel_rfl) (by kernel_rfl) (by kernel_rfl) (by exact fun _ _ _ h => h) (Or.inl ⟨by rfl, ?_⟩) (by assumption) ?_
            rotate_left
            · (intro w' hSw; (try dsimp only at hSw); go_simp; try with_reducible rfl)
            try simp only [Act.put, List.setIfInBounds_toArray, List.set_cons_zero, List.set_cons_succ]
            refine wpAnyH_take (i := 9) (v := ?_) (by simp only [List.getElem?_toArray, List.getElem?_cons_zero, List.getElem?_cons_succ]; rfl) (by kernel_rfl) (by kernel_rfl) (by kernel_rfl) (by exact fun _ _ _ h => h) (Or.inl ⟨by rfl, ?_⟩) (by assumption) ?_
            rotate_left
            · (intro w' hSw; (try dsimp only at hSw); go_simp; try with_reducible rfl)
            try simp only [Act.put, List.setIfInBounds_toArray, List.set_cons_zero, List.set_cons_succ]
            refine wpAnyH_take (i := 11) (v := ?_) (by simp only [List.getElem?_toArray, List.getElem?_cons_zero, List.getElem?_cons_succ]; rfl) (by kernel_rfl) (by kernel_rfl) (by kernel_rfl) (by exact fun _ _ _ h => h) (Or.inl ⟨by rfl, ?_⟩) (by assumption) ?_
            rotate_left
            · (intro w' hSw; (try dsimp only at hSw); go_simp; try with_reducible rfl)
            try simp only [Act.put, List.setIfInBounds_toArray, List.set_cons_zero, List.set_cons_succ]
            refine wpAnyH_ready (rs := [10, 12]) (by kernel_rfl) (by simp) ?_
            refine AllReadyH.cons (by simp only [List.getElem?_toArray, List.getElem?_cons_zero, List.getElem?_cons_succ]; rfl) (fun K hK => ?_) (AllReadyH.cons (by simp only [List.getElem?_toArray, List.getElem?_cons_zero, List.getElem?_cons_succ]; rfl) (fun K hK => ?_) (AllReadyH.nil))
            · go_simp
              go_wp2_with fail
              refine hK.out _ _ ⟨hHeld.1, hHeld.2.1, hHeld.2.2.1, hHeld.2.2.2⟩ (fun hNext => ?_)
              clear hHeld hK K
              have hHeld := hNext
              clear hNext
              try simp only [Act.put, List.setIfInBounds_toArray, List.set_cons_zero, List.set_cons_succ]
              refine wpAnyH_ready (rs := [12]) (by kernel_rfl) (by simp) ?_
              refine AllReadyH.cons (by simp only [List.getElem?_toArray, List.getElem?_cons_zero, List.getElem?_cons_succ]; rfl) (fun K hK => ?_) (AllReadyH.nil)
              go_simp
              go_wp2_with fail
              refine hK.out _ _ ⟨Lib.cell?_alloc_some _ hHeld.1, Lib.cell?_alloc_some _ hHeld.2.1, Lib.cell?_alloc_some _ hHeld.2.2.1, Lib.cell?_alloc_some _ hHeld.2.2.2⟩ (fun hNext => ?_)
              clear hHeld hK K
              have hHeld := hNext
              clear hNext
              try simp only [Act.put, List.setIfInBounds_toArray, List.set_cons_zero, List.set_cons_succ]
              refine wpAnyH_ready (rs := [13]) (by kernel_rfl) (by simp) ?_
              refine AllReadyH.cons (by simp only [List.getElem?_toArray, List.getElem?_cons_zero, List.getElem?_cons_succ]; rfl) (fun K hK => ?_) (AllReadyH.nil)
              simp only [Region.wanted, if_true]
              refine oper_append _ _ 24 rfl w.heap.size 27 i0 _ 4 40 Tryd.underlying24 hi hz0 hz1 hz2 rfl (by decide) (zval z) z.n _ rfl (hzrc.out.alloc _) ⟨wc.heap.size, 0, none⟩ 1 1 [.int .u8 xk, .int .i64 ((j : Int) + 1), .string xt, .int .i64 xn] rfl rfl (cells_new _ _ _ _ rfl) (by simp [Value.oneCell']) (by unfold maxLen; omega) (by omega) (by simp [World.drew]; omega) ?_
              intro v' w5 hown' hgrow hdis
              obtain ⟨g', cap', rfl⟩ := ownsRow_succ hown'
              have hgrow : (wc.alloc (.cells #[.int .u8 xk, .int .i64 ((j : Int) + 1), .string xt, .int .i64 xn] 27)).grownBy w5 (zval z).ownBlock := ⟨hgrow.os, hgrow.tape, hgrow.output, hgrow.size, hgrow.block⟩
              have HN := Lib.hid (Sorted.next (z' := ⟨0, some ⟨g', 0, none⟩, z.n + 1, cap', z.xs ++ [⟨xk, (j : Int) + 1, xt, xn⟩]⟩) (STc.out.alloc _) HXK.out (by simp) HZ.out (R1c.out.alloc _) (R2c.out.alloc _) HAP.out hgrow hdis (by unfold RowIn; rw [tokCells_append]; exact hown') rfl rfl rfl)
              have HB5 := Lib.hid (below_append (HWC.out.alloc HWC.out.size _) (by simp; omega) (hzrc.out.alloc _) hgrow)
              have HB6 := Lib.hid (HB5.out.setCell (p := ⟨w1.heap.size, j * 2 + 1, none⟩) hgw (.slice (some ⟨g', 0, none⟩) (z.n + 1) cap'))
              have hR5 := (R2c.out.alloc _).kept hgrow HZB.out.symm.off
              have hc5 : w5.cell? ⟨w1.heap.size, j * 2 + 1, none⟩ = some (.slice z.p z.n z.cp) := by
                have := hR5.cells (g := w1.heap.size) rfl _ _ (lineCells_at zs j z HZ.out).2
                rw [addr_at] at this
                exact this
              have hf5 : w5.frozen? ⟨w1.heap.size, j * 2 + 1, none⟩ = false := hR5.frozenAt _
              have hk5 : ∀ i, w5.cell? ⟨wr.heap.size, i, none⟩ = _ := fun i => World.cell?_of_block (hgrow.block wr.heap.size (by simp; omega) (fun e => HBN.out e.symm))
              refine hK.out _ _ ⟨(hk5 _).trans (id hHeld.1), (hk5 _).trans (id hHeld.2.1), (hk5 _).trans (id hHeld.2.2.1), (hk5 _).trans (id hHeld.2.2.2)⟩ (fun hNext => ?_)
              clear hHeld hK K
              have hHeld := hNext
              clear hNext hown' hgrow hdis hR5 hk5
              try simp only [Act.put, List.setIfInBounds_toArray, List.set_cons_zero, List.set_cons_succ]
              refine wpAnyH_take (i := 14) (v := ?_) (by simp only [List.getElem?_toArray, List.getElem?_cons_zero, List.getElem?_cons_succ]; rfl) (by kernel_rfl) (by kernel_rfl) (by kernel_rfl) (by exact fun _ _ _ h => h) (Or.inl ⟨by rfl, ?_⟩) (by assumption) ?_
              rotate_left
              · (intro w' hSw; (try dsimp only at hSw); go_simp; try with_reducible rfl)
              try simp only [Act.put, List.setIfInBounds_toArray, List.set_cons_zero, List.set_cons_succ]
              refine wpAnyH_take (i := 15) (v := ?_) (by simp only [List.getElem?_toArray, List.getElem?_cons_zero, List.getElem?_cons_succ]; rfl) (by kernel_rfl) (by kernel_rfl) (by kernel_rfl) (by exact fun _ _ _ h => h) (Or.inl ⟨by rfl, ?_⟩) (by assumption) ?_
              rotate_left
              · (intro w' hSw; (try dsimp only at hSw); go_simp; try with_reducible rfl)
              try simp only [Act.put, List.setIfInBounds_toArray, List.set_cons_zero, List.set_cons_succ]
              refine wpAnyH_ready (rs := [16]) (by kernel_rfl) (by simp) ?_
              refine AllReadyH.cons (by simp only [List.getElem?_toArray, List.getElem?_cons_zero, List.getElem?_cons_succ]; rfl) (fun K hK => ?_) (AllReadyH.nil)
              go_simp
              go_wp2_with fail
              refine hK.out _ _ ⟨(World.cell?_setCell_far _ _ _ _ (Ne.symm hgne)).trans hHeld.1, (World.cell?_setCell_far _ _ _ _ (Ne.symm hgne)).trans hHeld.2.1, (World.cell?_setCell_far _ _ _ _ (Ne.symm hgne)).trans hHeld.2.2.1, (World.cell?_setCell_far _ _ _ _ (Ne.symm hgne)).trans hHeld.2.2.2⟩ (fun hNext => ?_)
              clear hHeld hK K
              have hHeld := hNext
              clear hNext
              try simp only [Act.put, List.setIfInBounds_toArray, List.set_cons_zero, List.set_cons_succ]
              refine wpAnyH_done (by kernel_rfl) ?_ _
              clear hHeld
              go_wp2_with fail
              go_roundw
              case rel => exact ⟨k + 1, zs.set j (⟨0, some ⟨g', 0, none⟩, z.n + 1, cap', z.xs ++ [(⟨xk, (j : Int) + 1, xt, xn⟩ : TokR)]⟩ : LineR), by omega, by go_num, by rw [List.length_set, HZL.out], HN.out.1, HN.out.2.1, HN.out.2.2, HB6.out⟩
              case measure => simp [intOf]; omega
            · go_simp
              go_wp2_with fail
              refine hK.out _ _ ⟨Lib.cell?_alloc_some _ hHeld.1, Lib.cell?_alloc_some _ hHeld.2.1, Lib.cell?_alloc_some _ hHeld.2.2.1, Lib.cell?_alloc_some _ hHeld.2.2.2⟩ (fun hNext => ?_)
              clear hHeld hK K
              have hHeld := hNext
              clear hNext
              try simp only [Act.put, List.setIfInBounds_toArray, List.set_cons_zero, List.set_cons_succ]
              refine wpAnyH_ready (rs := [10]) (by kernel_rfl) (by simp) ?_
              refine AllReadyH.cons (by simp only [List.getElem?_toArray, List.getElem?_cons_zero, List.getElem?_cons_succ]; rfl) (fun K hK => ?_) (AllReadyH.nil)
              go_simp
              go_wp2_with fail
              refine hK.out _ _ ⟨hHeld.1, hHeld.2.1, hHeld.2.2.1, hHeld.2.2.2⟩ (fun hNext => ?_)
              clear hHeld hK K
              have hHeld := hNext
              clear hNext
              try simp only [Act.put, List.setIfInBounds_toArray, List.set_cons_zero, List.set_cons_succ]
              refine wpAnyH_ready (rs := [13]) (by kernel_rfl) (by simp) ?_
              refine AllReadyH.cons (by simp only [List.getElem?_toArray, List.getElem?_cons_zero, List.getElem?_cons_succ]; rfl) (fun K hK => ?_) (AllReadyH.nil)
              simp only [Region.wanted, if_true]
              refine oper_append _ _ 24 rfl w.heap.size 27 i0 _ 4 40 Tryd.underlying24 hi hz0 hz1 hz2 rfl (by decide) (zval z) z.n _ rfl (hzrc.out.alloc _) ⟨wc.heap.size, 0, none⟩ 1 1 [.int .u8 xk, .int .i64 ((j : Int) + 1), .string xt, .int .i64 xn] rfl rfl (cells_new _ _ _ _ rfl) (by simp [Value.oneCell']) (by unfold maxLen; omega) (by omega) (by simp [World.drew]; omega) ?_
              intro v' w5 hown' hgrow hdis
              obtain ⟨g', cap', rfl⟩ := ownsRow_succ hown'
              have hgrow : (wc.alloc (.cells #[.int .u8 xk, .int .i64 ((j : Int) + 1), .string xt, .int .i64 xn] 27)).grownBy w5 (zval z).ownBlock := ⟨hgrow.os, hgrow.tape, hgrow.output, hgrow.size, hgrow.block⟩
              have HN := Lib.hid (Sorted.next (z' := ⟨0, some ⟨g', 0, none⟩, z.n + 1, cap', z.xs ++ [⟨xk, (j : Int) + 1, xt, xn⟩]⟩) (STc.out.alloc _) HXK.out (by simp) HZ.out (R1c.out.alloc _) (R2c.out.alloc _) HAP.out hgrow hdis (by unfold RowIn; rw [tokCells_append]; exact hown') rfl rfl rfl)
              have HB5 := Lib.hid (below_append (HWC.out.alloc HWC.out.size _) (by simp; omega) (hzrc.out.alloc _) hgrow)
              have HB6 := Lib.hid (HB5.out.setCell (p := ⟨w1.heap.size, j * 2 + 1, none⟩) hgw (.slice (some ⟨g', 0, none⟩) (z.n + 1) cap'))
              have hR5 := (R2c.out.alloc _).kept hgrow HZB.out.symm.off
              have hc5 : w5.cell? ⟨w1.heap.size, j * 2 + 1, none⟩ = some (.slice z.p z.n z.cp) := by
                have := hR5.cells (g := w1.heap.size) rfl _ _ (lineCells_at zs j z HZ.out).2
                rw [addr_at] at this
                exact this
              have hf5 : w5.frozen? ⟨w1.heap.size, j * 2 + 1, none⟩ = false := hR5.frozenAt _
              have hk5 : ∀ i, w5.cell? ⟨wr.heap.size, i, none⟩ = _ := fun i => World.cell?_of_block (hgrow.block wr.heap.size (by simp; omega) (fun e => HBN.out e.symm))
              refine hK.out _ _ ⟨(hk5 _).trans (id hHeld.1), (hk5 _).trans (id hHeld.2.1), (hk5 _).trans (id hHeld.2.2.1), (hk5 _).trans (id hHeld.2.2.2)⟩ (fun hNext => ?_)
              clear hHeld hK K
              have hHeld := hNext
              clear hNext hown' hgrow hdis hR5 hk5
              try simp only [Act.put, List.setIfInBounds_toArray, List.set_cons_zero, List.set_cons_succ]
              refine wpAnyH_take (i := 14) (v := ?_) (by simp only [List.getElem?_toArray, List.getElem?_cons_zero, List.getElem?_cons_succ]; rfl) (by kernel_rfl) (by kernel_rfl) (by kernel_rfl) (by exact fun _ _ _ h => h) (Or.inl ⟨by rfl, ?_⟩) (by assumption) ?_
              rotate_left
              · (intro w' hSw; (try dsimp only at hSw); go_simp; try with_reducible rfl)
              try simp only [Act.put, List.setIfInBounds_toArray, List.set_cons_zero, List.set_cons_succ]
              refine wpAnyH_take (i := 15) (v := ?_) (by simp only [List.getElem?_toArray, List.getElem?_cons_zero, List.getElem?_cons_succ]; rfl) (by kernel_rfl) (by kernel_rfl) (by kernel_rfl) (by exact fun _ _ _ h => h) (Or.inl ⟨by rfl, ?_⟩) (by assumption) ?_
              rotate_left
              · (intro w' hSw; (try dsimp only at hSw); go_simp; try with_reducible rfl)
              try simp only [Act.put, List.setIfInBounds_toArray, List.set_cons_zero, List.set_cons_succ]
              refine wpAnyH_ready (rs := [16]) (by kernel_rfl) (by simp) ?_
              refine AllReadyH.cons (by simp only [List.getElem?_toArray, List.getElem?_cons_zero, List.getElem?_cons_succ]; rfl) (fun K hK => ?_) (AllReadyH.nil)
              go_simp
              go_wp2_with fail
              refine hK.out _ _ ⟨(World.cell?_setCell_far _ _ _ _ (Ne.symm hgne)).trans hHeld.1, (World.cell?_setCell_far _ _ _ _ (Ne.symm hgne)).trans hHeld.2.1, (World.cell?_setCell_far _ _ _ _ (Ne.symm hgne)).trans hHeld.2.2.1, (World.cell?_setCell_far _ _ _ _ (Ne.symm hgne)).trans hHeld.2.2.2⟩ (fun hNext => ?_)
              clear hHeld hK K
              have hHeld := hNext
              clear hNext
              try simp only [Act.put, List.setIfInBounds_toArray, List.set_cons_zero, List.set_cons_succ]
              refine wpAnyH_done (by kernel_rfl) ?_ _
              clear hHeld
              go_wp2_with fail
              go_roundw
              case rel => exact ⟨k + 1, zs.set j (⟨0, some ⟨g', 0, none⟩, z.n + 1, cap', z.xs ++ [(⟨xk, (j : Int) + 1, xt, xn⟩ : TokR)]⟩ : LineR), by omega, by go_num, by rw [List.length_set, HZL.out], HN.out.1, HN.out.2.1, HN.out.2.2, HB6.out⟩
              case measure => simp [intOf]; omega
        · obtain rfl : k = nx := by omega
          have htk : xs.take k = xs := by rw [← HNX.out, List.take_length]
          have hst := ST.out
          rw [htk] at hst
          have hto : toksOf zs 1 = xs := held_toks zs 1 xs (fun x hx => by have := HRO.out x hx; rw [HZL.out]; omega) HRI.out (fun j z hz => by rw [(hst.toks j z hz).2.1, Nat.add_comm 1 j])
          have hin : ∀ z ∈ zs, ∀ x ∈ z.xs, x ∈ xs := fun z hz x hx => by
            obtain ⟨j, hj⟩ := List.mem_iff_getElem?.1 hz
            rw [(hst.toks j z hj).2.1] at hx
            exact (List.mem_filter.1 hx).1
          have hlin := lines_of_row R2.out HZL.out (fun z hz => by
            obtain ⟨j, hj⟩ := List.mem_iff_getElem?.1 hz
            obtain ⟨_, h2, h3⟩ := hst.toks j z hj
            refine ⟨(hst.rows z hz).1, h3, ?_, fun x hx => may_size (HRO.out x (hin z hz x hx)).1⟩
            rw [← h3, h2]
            unfold lineToks
            refine Nat.le_trans (List.length_filter_le _ _) ?_
            rw [HNX.out]; omega)
          have hval : zs.all LineR.valid = true := List.all_eq_true.2 (fun z hz => by
            obtain ⟨j, hj⟩ := List.mem_iff_getElem?.1 hz
            obtain ⟨h1, _, _⟩ := hst.toks j z hj
            unfold LineR.valid
            rw [h1, decide_eq_true (show (0 : Int) ≤ 0 ∧ (0 : Int) ≤ 80 by omega), List.all_eq_true.2 (fun x hx => (HRO.out x (hin z hz x hx)).1)]; rfl)
          have HLIN := Lib.hid hlin
          have HLW := Lib.hid (HL.out.below HW.out)
          have HT1 := Lib.hid (toks_of_row R1.out HNX.out)
          have HTO := Lib.hid hto
          clear hlin hin hst htk hto
          by_cases hs : zs.all LineR.short = true ∧ (linesT zs).length ≤ 65536
          · have hts : linesS zs = linesT zs := by rw [linesS, hval, if_pos rfl, if_pos hs]
            have hte : linesE zs = 0 := by rw [linesE, hval, if_pos rfl, if_pos hs]
            have hrd := read_again hval hs.1 hs.2 HTO.out (by rw [HNX.out]; omega)
            have HTS := Lib.hid hts
            have HTE := Lib.hid hte
            have HRD := Lib.hid hrd
            have HLN := Lib.hid hs.2
            clear hts hte hrd hval hs
            go_wp2_with (first
              | (go_at_call 29; refine (lines_any _ _ _ zs _ HLIN.out (by omega) HLW.out.pow).mono ?_; rw [HTS.out, HTE.out]; rintro e w3 ⟨s, rfl, hs, hb⟩; have HB3 := Lib.hid (after HW.out hb); have HT2 := Lib.hid (HT1.out.below hb); have HS := Lib.hid hs; have hsz : s.size ≤ 65536 := (by rw [← length_toList, hs]; exact HLN.out); clear hs hb)
              | (go_at_call 24; refine (tokens_reads _ _ (HL.out.below HB3.out).len (by omega)).mono ?_; rw [HS.out, HRD.out]; rintro e w4 ⟨q3, c3, rfl, hrow, hb⟩; have HT3 := Lib.hid (HT2.out.below hb); have HB4 := Lib.hid (after HB3.out hb); simp only [Rd.toks, HNX.out] at hrow; have HTR := Lib.hid (toks_of_row hrow HNX.out); simp only [Rd.toks, Rd.line, Rd.err, HNX.out]; clear hrow hb)
              | (go_at_call 26; refine (equal_any _ _ _ _ _ _ _ _ _ HT3.out HTR.out (by omega) (by omega)).mono ?_; rw [eq_refl]; rintro e w5 ⟨rfl, hb⟩; have HB5 := Lib.hid (after HB4.out hb); clear hb)
              | (go_at_call 19; refine (awake_any _ (HL.out.below HB5.out)).mono ?_; rintro e w6 ⟨rfl, hb⟩; have HB6 := Lib.hid (after HB5.out hb); clear hb))
            go_returns
            exact ⟨rfl, HB6.out⟩
          · have hts : linesS zs = [] := by rw [linesS, hval, if_pos rfl, if_neg hs]
            have hte : linesE zs = 3 := by rw [linesE, hval, if_pos rfl, if_neg hs]
            have HTS := Lib.hid hts
            have HTE := Lib.hid hte
            clear hts hte hval hs
            go_wp2_with (first
              | (go_at_call 29; refine (lines_any _ _ _ zs _ HLIN.out (by omega) HLW.out.pow).mono ?_; rw [HTS.out, HTE.out]; rintro e w3 ⟨s, rfl, hs, hb⟩; have HB3 := Lib.hid (after HW.out hb); clear hs hb)
              | (go_at_call 19; refine (awake_any _ (HL.out.below HB3.out)).mono ?_; rintro e w6 ⟨rfl, hb⟩; have HB6 := Lib.hid (after HB3.out hb); clear hb))
            go_returns
            exact ⟨rfl, HB6.out⟩

end Go.Proofs.YtalbcgbfefgjfaaDoor
