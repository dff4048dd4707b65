
/-
  lex.Tokens.
-/
import Derived.Test.YtalbcgbfefgjfaaDoorLexU
import Derived.Test.YtalbcgbfefgjfaaDoorLexV
namespace Go.Proofs.YtalbcgbfefgjfaaDoor
open Go Go.RowKit Go.Shelf
attribute [local go_sem] Oper.semAt_some

theorem tokens_stops (n b : Nat) (s : ByteArray) (w : World) (hs : s.size ≤ 4611686018427387904) (hb : w.cell? ⟨b, 0, none⟩ = some (.string s)) :
    SeqStopsK Fence.wide n Tryd.prog 72 #[.pointer (some ⟨b, 0, none⟩)] encI (KeepsBox b) (SAll s) (SPart s) s.size w := fun l J Jx W hW hJ _ hY h0 =>
  tokens1_in n l b s J Jx W hs hJ hY (keepA hW hb) h0

/-- What a variable of the library's holds: the length up to which bytes are compared one by one. -/
def MaxLenOk (w : World) : Prop := ∃ m, w.cell? ⟨0, 0, none⟩ = some (.int .i64 m)
theorem MaxLenOk.below {w W : World} (h : MaxLenOk w) (hb : Below w.heap.size w W) : MaxLenOk W := by
  obtain ⟨m, hm⟩ := h
  exact ⟨m, keepA hb hm⟩

def Rd.toks : Rd → List TokR
  | .ok l => l
  | .no _ _ => []
def Rd.line : Rd → Int
  | .ok _ => 0
  | .no n _ => n
def Rd.err : Rd → Int
  | .ok _ => 0
  | .no _ e => e
/-- What Tokens hands back. -/
def TokRes (w : World) (r : Rd) (e : Ending) (W : World) : Prop :=
  ∃ p cap, e = .returned (.tuple #[.slice p r.toks.length cap, .int .i64 r.line, .int .i64 r.err]) ∧ W.ownsRow w.heap.size 27 4 (.slice p r.toks.length cap) r.toks.length (tokCells r.toks) ∧ Below w.heap.size w W

def marks (Ds : List Nat) : List Deferred := Ds.map fun D => { target := .collected D, args := #[] }

/-- A function leaves: the blocks for its loops' deferred calls are shut, one after the other. -/
theorem leaves_marks {F : Fence} {n : Nat} {P : Program} {fn : Func} {tmps : Array Value} {R : Ending → World → Prop} (B : Nat) (J : World → Prop)
    (hJ : ∀ W D, J W → B ≤ D → W.heap[D]? = some (.deferred (some [])) → J (W.putObj D (.deferred none)))
    (hR : ∀ W, J W → ∃ v, (results fn tmps).run P W = .ok v W ∧ R (.returned v) W) :
    ∀ (Ds : List Nat) (W : World), J W → (∀ D ∈ Ds, B ≤ D ∧ W.heap[D]? = some (.deferred (some []))) → Ds.Nodup → LeavesInM F n P fn tmps R (marks Ds) .returning W := by
  intro Ds
  induction Ds with
  | nil => intro W hj _ _; exact hR W hj
  | cons D Ds ih =>
    intro W hj hD hn
    obtain ⟨hB, hd⟩ := hD D (by simp)
    refine ⟨by simp, .inl ⟨D, _, rfl, run_takeDeferred hd, ?_⟩⟩
    refine ih _ (hJ W D hj hB hd) (fun E hE => ⟨(hD E (by simp [hE])).1, ?_⟩) (List.nodup_cons.1 hn).2
    have hne : E ≠ D := fun e => (List.nodup_cons.1 hn).1 (e ▸ hE)
    exact (World.putObj_heap_other hne).trans (hD E (by simp [hE])).2

theorem leaves_tokens (_ : ByteArray) (w : World) (tmps : Array Value) (acc : List TokR) (line er : Int) (W : World) (Ds : List Nat) (R : Ending → World → Prop)
    (h2 : tmps[2]? = some (.pointer (some ⟨w.heap.size, 0, none⟩))) (h3 : tmps[3]? = some (.pointer (some ⟨w.heap.size + 1, 0, none⟩))) (h4 : tmps[4]? = some (.pointer (some ⟨w.heap.size + 1 + 1, 0, none⟩)))
    (hst : TokSt w acc line er W) (hD : ∀ D ∈ Ds, w.heap.size ≤ D ∧ W.heap[D]? = some (.deferred (some []))) (hn : Ds.Nodup)
    (hR : ∀ p cap W', TokSt w acc line er W' → W'.ownsRow w.heap.size 27 4 (.slice p acc.length cap) acc.length (tokCells acc) → R (.returned (.tuple #[.slice p acc.length cap, .int .i64 line, .int .i64 er])) W') :
    LeavesInM Fence.wide 10 Tryd.prog Tryd.f24 tmps R (marks Ds) .returning W := by
  refine leaves_marks w.heap.size (TokSt w acc line er) (fun W D hj hB hd => ?_) (fun W hj => ?_) Ds W hst hD hn
  · exact hj.turn (grownBy_putObj' W D _) (fun r e => by cases e; exact ⟨hB, _, hd, rfl⟩)
  · obtain ⟨p, cap, hb, hrow⟩ := hj.slice
    have c0 := hb.cell
    have c1 := hj.line.cell
    have c2 := hj.err.cell
    refine ⟨_, ?_, hR p cap W hj hrow⟩
    simp [results, Tryd.results24, go_sem, h2, h3, h4, c0, c1, c2]

def isMark (Ds : List Nat) (W : World) (B : Nat) : Prop := ∀ D ∈ Ds, B ≤ D ∧ W.heap[D]? = some (.deferred (some []))
theorem isMark.keep {Ds : List Nat} {X Y : World} {B : Nat} (h : isMark Ds X B) (hk : KeepsOthers X Y) : isMark Ds Y B := fun D hD => ⟨(h D hD).1, hk.same D _ (h D hD).2 rfl⟩
theorem isMark.below {Ds : List Nat} {X Y : World} {B : Nat} (h : isMark Ds X B) (hb : Below X.heap.size X Y) : isMark Ds Y B := fun D hD => ⟨(h D hD).1, (hb.block D (Array.getElem?_eq_some_iff.1 (h D hD).2).1).trans (h D hD).2⟩
theorem three_sets (X : World) (a b c : Addr) (u v t : Value) : KeepsOthers X (((X.setCell a u).setCell b v).setCell c t) := ((KeepsOthers.setCell _ _ _).trans (KeepsOthers.setCell _ _ _)).trans (KeepsOthers.setCell _ _ _)

set_option maxRecDepth 100000 in
set_option maxHeartbeats 4000000 in
theorem tokens_in (s : ByteArray) (w : World) (hm : MaxLenOk w) (hs : s.size ≤ 140737488355328) : CallsIn Fence.wide 10 Tryd.prog 24 #[.string s] w (TokRes w (readL s.toList)) := by
  obtain ⟨r, hr⟩ : ∃ r, readL s.toList = r := ⟨_, rfl⟩
  rw [hr]
  have HR := Lib.hid hr
  clear hr
  refine callsIn_of_wp_marks Tryd.func24 rfl trivial ?_ rfl
  simp only [Tryd.ntmps24, List.size_toArray, List.length_cons, List.length_nil, Nat.reduceAdd, Nat.reduceSub, Array.replicate_succ, Array.replicate_zero, List.push_toArray, List.append_toArray, List.nil_append, List.cons_append]
  obtain ⟨m, hmc⟩ := hm
  have hlt := World.block_lt_of_cell? _ _ hmc
  dsimp only at hlt
  have HST := Lib.hid (TokSt.start w)
  by_cases hlong : 65536 < s.size
  · have hb5 : Below w.heap.size w (((w.alloc (.cells #[.slice none 0 0] 24)).alloc (.cells #[.int .i64 0] 3)).alloc (.cells #[.int .i64 3] 30)) := by (repeat' (first | (with_reducible exact Below.refl _ _) | (with_reducible assumption) | (with_reducible refine boxed ?_ _) | (with_reducible refine Below.drew ?_) | (with_reducible refine after ?_ (by assumption))))
    gi_wp2
    refine wpIn_scope ?_
    gi_wp2
    rw [Exit.noGoto_ret]
    obtain rfl : r = .no 0 3 := by rw [← HR.out, readL, if_pos (by rw [length_toList]; exact hlong)]
    refine ⟨_, (by simp [results, Tryd.results24, go_sem]; rfl), ?_⟩
    exact ⟨none, 0, rfl, World.ownsRow_nil _ _ _ _, hb5⟩
  · gi_wp2
    refine wpIn_scope ?_
    gi_wp2
    refine wpIn_label ?_
    gi_wp2_with (first
      | (refine ⟨trivial, ?_⟩; gi_at_call 34; refine (callsIn_wide.2 (Tryd.strings_Split _ _ m _ (by omega) (by go_cell) (by decide))).mono ?_; rintro e w3 ⟨rfl, rfl⟩))
    rename_i K hK
    have fin : ∀ (acc : List TokR) (line : Nat) (er : Int) (k u6 u13 u14 u16 u17 u18 u19 u20 u21 u22 u36 : Value) (Ds : List Nat) (W : World), TokSt w acc line er W → isMark Ds W w.heap.size → Ds.Nodup → ((er = 0 ∧ r = .ok acc) ∨ (¬ er = 0 ∧ r = .no line er)) →
        K { tmps := #[.string s, undef, .pointer (some ⟨w.heap.size, 0, none⟩), .pointer (some ⟨w.heap.size + 1, 0, none⟩), .pointer (some ⟨w.heap.size + 1 + 1, 0, none⟩), undef, u6, undef, undef, .string s, .int .i64 s.size, .bool (decide ((65536 : Int) < s.size)), .string s, u13, u14, k, u16, u17, u18, u19, u20, u21, u22, undef, undef, undef, undef, undef, undef, undef, undef, undef, undef, undef, undef, undef, u36, undef, undef, undef, undef, undef], defers := marks Ds } W := by
      intro acc line er k u6 u13 u14 u16 u17 u18 u19 u20 u21 u22 u36 Ds W hst hD hn hres
      refine hK _ _ ?_
      clear hK
      obtain ⟨p, cap, hb, hrow⟩ := hst.slice
      have c0 := hb.cell
      have c1 := hst.line.cell
      have c2 := hst.err.cell
      have f0 := hb.frozen
      have f1 := hst.line.frozen
      have f2 := hst.err.frozen
      rcases hres with ⟨rfl, rfl⟩ | ⟨he, rfl⟩
      · have H1 := Lib.hid (((hst.setRow hb).setLine 0).setErr 0)
        have H2 := Lib.hid hD
        have H3 := Lib.hid hn
        clear hst hD hn hb hrow
        gi_wp2
        rw [Exit.noGoto_ret]
        exact leaves_tokens s w _ acc 0 0 _ Ds _ rfl rfl rfl H1.out (H2.out.keep (three_sets _ _ _ _ _ _ _)) H3.out (fun p cap W' hst hrow => ⟨p, cap, rfl, hrow, hst.bel⟩)
      · have heb : (er == 0) = false := beq_eq_false_iff_ne.2 he
        have heb2 : (er != 0) = true := by simp [he]
        have H1 := Lib.hid (((hst.setNil).setLine line).setErr er)
        have H2 := Lib.hid hD
        have H3 := Lib.hid hn
        clear hst hD hn hb hrow he
        gi_wp2
        gi_region
        gi_wp2
        rw [Exit.noGoto_ret]
        exact leaves_tokens s w _ [] line er _ Ds _ rfl rfl rfl (H1.out.drew) ((H2.out.keep (three_sets _ _ _ _ _ _ _)).keep (KeepsOthers.drew _)) H3.out (fun p cap W' hst hrow => ⟨p, cap, rfl, hrow, hst.bel⟩)
    have HF := Lib.hid fin
    clear fin hK
    have hsl := split_lines s
    have hsc := split_count s
    obtain ⟨ls, hls⟩ : ∃ ls, Lib.splitB ⟨#[10]⟩ 0 (Lib.countB s ⟨#[10]⟩) s = ls := ⟨_, rfl⟩
    rw [hls] at hsl ⊢
    obtain ⟨N, hN⟩ : ∃ N, Lib.countB s ⟨#[10]⟩ = N := ⟨_, rfl⟩
    rw [hN] at hsc
    simp only [hN]
    have hNs : N ≤ s.size := by rw [hsc, ← length_toList]; exact List.count_le_length
    have hlen : ls.length = N + 1 := by rw [hsc, ← linesL_length, ← hsl, List.length_map]
    have hr1 : readL s.toList = foldLines (linesL s.toList) 0 [] := by rw [readL, if_neg (by rw [length_toList]; exact hlong)]; exact lex_lines _ _ 0 [] (Nat.le_refl _)
    have HR1 := Lib.hid (hr1.symm.trans HR.out)
    have HSL := Lib.hid hsl
    have HE := Lib.hid (TokEnv.start w ls)
    clear hr1 hsl hN hls hsc HR
    have hst0 := HST.out.below ((Below.refl _ _).alloc (Nat.le_refl _) (.cells (ls.map Value.string).toArray 9))
    refine wpIn_loop (fun a W => ∃ (k : Nat) (acc : List TokR) (Ds : List Nat) (u6 u16 u17 u18 u19 u20 u21 u22 u36 : Value),
        (k ≤ N + 1 ∧ foldLines ((linesL s.toList).drop k) k acc = r ∧ acc.length ≤ 8192 ∧ TokSt w acc k 0 W ∧ TokEnv w ls Ds W ∧ isMark Ds W w.heap.size ∧ Ds.Nodup) ∧
        a = { tmps := #[.string s, undef, .pointer (some ⟨w.heap.size, 0, none⟩), .pointer (some ⟨w.heap.size + 1, 0, none⟩), .pointer (some ⟨w.heap.size + 1 + 1, 0, none⟩), undef, u6, undef, undef, .string s, .int .i64 s.size, .bool (decide ((65536 : Int) < s.size)), .string s, .slice (some ⟨w.heap.size + 1 + 1 + 1, 0, none⟩) (N + 1) (N + 1), .int .i64 ((N : Int) + 1), .int .i64 k, u16, u17, u18, u19, u20, u21, u22, undef, undef, undef, undef, undef, undef, undef, undef, undef, undef, undef, undef, undef, u36, undef, undef, undef, undef, undef], defers := marks Ds }) (fun a _ => N + 1 - (intOf (a.tmps.getD 15 undef)).toNat)
      ⟨0, [], [], undef, undef, undef, undef, undef, undef, undef, undef, undef, ⟨Nat.zero_le _, HR1.out, Nat.zero_le _, hst0, HE.out, (fun D h => by simp at h), List.nodup_nil⟩, rfl⟩ ?_
    rintro a W ⟨k, acc, Ds, u6, u16, u17, u18, u19, u20, u21, u22, u36, ⟨hk, hfold, hacc, hst, henv, hD, hn⟩, rfl⟩
    clear hst0 HE HST
    have HFO := Lib.hid hfold
    have HS := Lib.hid hst
    have HEN := Lib.hid henv
    have HD := Lib.hid hD
    have HN := Lib.hid hn
    by_cases hlt : k < N + 1
    · obtain ⟨x, hx⟩ : ∃ x, ls[k]? = some x := ⟨ls[k]'(by omega), List.getElem?_eq_getElem (by omega)⟩
      have hp := henv.piece k x hx
      have hkl : (k : Int) < N + 1 := by omega
      have c1 := hst.line.cell
      have f1 := hst.line.frozen
      have HX := Lib.hid hx
      clear hfold hst henv hD hn hx
      gi_wp2_with (first
        | (refine ⟨trivial, ?_⟩; gi_at_call 52; refine (callsIn_wide.2 (tokens_any _ _)).mono ?_; rintro e w3 ⟨rfl, rfl⟩))
      have hst1 := HS.out.setLine ((k : Int) + 1)
      have hk1 : KeepsOthers W (W.setCell ⟨w.heap.size + 1, 0, none⟩ (.int .i64 ((k : Int) + 1))) := KeepsOthers.setCell _ _ _
      have henv1 := HEN.out.cells hk1 (Below.heap_setCell _ _ _ _ (by show w.heap.size + 1 + 1 + 1 ≠ w.heap.size + 1; omega))
      have hD1 := HD.out.keep hk1
      have hsz1 : (W.setCell ⟨w.heap.size + 1, 0, none⟩ (.int .i64 ((k : Int) + 1))).heap.size = W.heap.size := by simp
      have hsW : w.heap.size + 1 + 1 < W.heap.size := HS.out.err.lt
      have hbx : Boxed ((W.setCell ⟨w.heap.size + 1, 0, none⟩ (.int .i64 ((k : Int) + 1))).alloc (.cells #[.string x] 9)) W.heap.size 9 (.string x) := by
        have := Boxed.new (W.setCell ⟨w.heap.size + 1, 0, none⟩ (.int .i64 ((k : Int) + 1))) 9 (.string x)
        rw [hsz1] at this; exact this
      have hbel : Below (W.setCell ⟨w.heap.size + 1, 0, none⟩ (.int .i64 ((k : Int) + 1))).heap.size (W.setCell ⟨w.heap.size + 1, 0, none⟩ (.int .i64 ((k : Int) + 1))) ((W.setCell ⟨w.heap.size + 1, 0, none⟩ (.int .i64 ((k : Int) + 1))).alloc (.cells #[.string x] 9)) := (Below.refl _ _).alloc (Nat.le_refl _) _
      have hst2 := hst1.below hbel
      have henv2 := henv1.below hbel
      have hD2 := hD1.below hbel
      have hsz2 : ((W.setCell ⟨w.heap.size + 1, 0, none⟩ (.int .i64 ((k : Int) + 1))).alloc (.cells #[.string x] 9)).heap.size = W.heap.size + 1 := by simp
      obtain ⟨W0, hW0⟩ : ∃ W0, (W.setCell ⟨w.heap.size + 1, 0, none⟩ (.int .i64 ((k : Int) + 1))).alloc (.cells #[.string x] 9) = W0 := ⟨_, rfl⟩
      rw [hW0] at hbx hst2 henv2 hD2 hsz2 ⊢
      have hDlt : ∀ D ∈ Ds, D < W0.heap.size := fun D hd => (Array.getElem?_eq_some_iff.1 (hD2 D hd).2).1
      have hxs : x.size ≤ 4611686018427387904 := by
        have h1 : x.toList ∈ linesL s.toList := by rw [← HSL.out]; exact List.mem_map_of_mem (List.mem_of_getElem? HX.out)
        have h2 := linesL_le _ _ h1
        rw [length_toList, length_toList] at h2
        omega
      clear hW0 hbel hst1 henv1 hD1 hsz1 hk1
      refine wpIn_rangeFunc_ownH rfl (by omega) (gf := 72) (lb := #[.pointer (some ⟨W.heap.size, 0, none⟩)]) rfl trivial (enters_of Tryd.func72 (by kernel_rfl) rfl)
        (tokens_stops 9 W.heap.size x W0 hxs hbx.cell) (fun h1 h2 => ⟨h1.1.trans h2.1, h2.2.trans h1.2⟩) (fun V l o o' hl ho hc hw => ⟨walksK_b (w := W0) V l o o' hl ho hc hw, World.cell?_of_block (World.putObj_heap_other (by show W.heap.size ≠ l; omega))⟩) (Below.refl _ _) (fun _ => rfl)
        (fun pre V => (TokSt w (accOf acc (k + 1) pre) ((k + 1 : Nat) : Int) 0 V ∧ TokEnv w ls Ds V ∧ Boxed V W.heap.size 9 (.string x)) ∧ pre.all (·.2) = true ∧ (accOf acc (k + 1) pre).length ≤ 8192)
        (fun c p V => ∃ q y er, p = q ++ [y] ∧ q.all (·.2) = true ∧ (accOf acc (k + 1) q).length ≤ 8192 ∧ c = .exit 0 ∧ TokSt w (accOf acc (k + 1) q) ((k + 1 : Nat) : Int) er V ∧ TokEnv w ls Ds V ∧ ((y.2 = false ∧ er = 20) ∨ (y.2 = true ∧ (accOf acc (k + 1) q).length = 8192 ∧ er = 3)))
        (fun pre X Y row h hg hr => ⟨⟨h.1.1.turn hg (fun r e => ⟨by have := (hr r e).1; omega, (hr r e).2⟩), h.1.2.1.turn hg hr hDlt, boxed_own _ _ (fun _ : Unit => .string x) () X Y row h.1.2.2 hg (fun r e => (hr r e).2)⟩, h.2⟩)
        (fun c p X Y row h hg hr => by
          obtain ⟨q, y, er, h1, h2, h3, h4, h5, h6, h7⟩ := h
          exact ⟨q, y, er, h1, h2, h3, h4, h5.turn hg (fun r e => ⟨by have := (hr r e).1; omega, (hr r e).2⟩), h6.turn hg hr hDlt, h7⟩)
        ⟨⟨by rw [accOf_nil]; exact hst2, henv2, hbx⟩, rfl, by rw [accOf_nil]; exact hacc⟩
        (fun y a' V => ∃ B, (W.heap.size < B ∧ V.heap[B]? = some (.cells #[.int .u8 y.1.k, .int .i64 y.1.l, .string y.1.t, .int .i64 y.1.n] 27 (0, 0)) ∧ ∃ v, V.cell? ⟨w.heap.size, 0, none⟩ = some v ∧ v.ownBlock ≠ some B) ∧
          a' = { tmps := #[.string s, undef, .pointer (some ⟨w.heap.size, 0, none⟩), .pointer (some ⟨w.heap.size + 1, 0, none⟩), .pointer (some ⟨w.heap.size + 1 + 1, 0, none⟩), undef, .string x, .pointer (some ⟨B, 0, none⟩), .bool y.2, .string s, .int .i64 s.size, .bool (decide ((65536 : Int) < s.size)), .string s, .slice (some ⟨w.heap.size + 1 + 1 + 1, 0, none⟩) (N + 1) (N + 1), .int .i64 ((N : Int) + 1), .int .i64 k, .bool true, .pointer (some ⟨w.heap.size + 1 + 1 + 1, k, none⟩), .string x, .int .i64 k, .int .i64 ((k : Int) + 1), .string x, .func (.func 72) #[] #[.pointer (some ⟨W.heap.size, 0, none⟩)], .agg #[.int .u8 y.1.k, .int .i64 y.1.l, .string y.1.t, .int .i64 y.1.n], .bool y.2, undef, undef, undef, undef, undef, undef, undef, undef, undef, undef, undef, u36, undef, undef, undef, undef, undef], defers := [] })
        (fun y a' _ X Y row h hg hr => by
          obtain ⟨B, ⟨h1, h2, v, h3, h4⟩, h5⟩ := h
          exact ⟨B, ⟨h1, (grownBy_keeps_cells hg (fun r e => (hr r e).2) h2 rfl).trans h2, v, cell_kept h3 hg (fun r e => (hr r e).2), h4⟩, h5⟩)
        ?assign ?body ?done ?stop
      case assign =>
        rintro l pre y V K' ⟨⟨i1, i2, i3⟩, i4, i5⟩ hK'
        have HI := Lib.hid i1
        have hpB := Lib.hid i1.row
        unfold encI
        clear hst2 henv2 hD2 hDlt
        gi_wp2
        obtain ⟨v0, hv0, hr0⟩ := hpB.out
        have hg0 : v0.ownBlock ≠ some V.heap.size := by
          rcases hr0.2 with ⟨rfl, _⟩ | ⟨g, cap, cur, rfl, _, hgb, _⟩
          · simp [Value.ownBlock]
          · intro e
            obtain rfl : g = V.heap.size := by simpa [Value.ownBlock] using e
            have := (Array.getElem?_eq_some_iff.1 hgb).1
            omega
        have ha : Below V.heap.size V (V.alloc (.cells #[.int .u8 y.1.k, .int .i64 y.1.l, .string y.1.t, .int .i64 y.1.n] 27)) := (Below.refl _ _).alloc (Nat.le_refl _) _
        exact hK' _ _ ((KeepsOthers.alloc _ _).from _) ⟨KeepsWalks.alloc _ _, (i3.alloc _).cell.trans i3.cell.symm⟩ ⟨⟨HI.out.below ha, i2.below ha, i3.alloc _⟩, i4, i5⟩
          ⟨V.heap.size, ⟨i3.lt, World.alloc_heap_new V _, v0, (hv0.alloc _).cell, hg0⟩, rfl⟩
      case body =>
        rintro l pre ⟨z, b⟩ a' V hl ⟨rl, hrl⟩ ⟨⟨i1, i2, i3⟩, i4, i5⟩ ⟨B, ⟨hB, hcells, v0, hv0, hne⟩, rfl⟩ hlt'
        dsimp only at hcells ⊢
        obtain ⟨p, cap, hb, hrow⟩ := i1.slice
        obtain rfl : v0 = .slice p (accOf acc (k + 1) pre).length cap := Option.some.inj (hv0.symm.trans hb.cell)
        have c0 := hb.cell
        have c2 := i1.line.cell
        have c3 := i1.err.cell
        have f0 := hb.frozen
        have f3 := i1.err.frozen
        have z0 : V.cell? ⟨B, 0, none⟩ = some (.int .u8 z.k) := by simp [World.cell?, hcells]
        have z1 : V.cell? ⟨B, 1, none⟩ = some (.int .i64 z.l) := by simp [World.cell?, hcells]
        have z2 : V.cell? ⟨B, 2, none⟩ = some (.string z.t) := by simp [World.cell?, hcells]
        have z3 : V.cell? ⟨B, 3, none⟩ = some (.int .i64 z.n) := by simp [World.cell?, hcells]
        have g1 : V.frozen? ⟨B, 1, none⟩ = false := by simp [World.frozen?, hcells]
        have I1 := Lib.hid i1
        have I2 := Lib.hid i2
        have I3 := Lib.hid i3
        have I4 := Lib.hid i4
        have I5 := Lib.hid i5
        have HRW := Lib.hid hrow
        have HB := Lib.hid hb
        have HNE := Lib.hid hne
        clear i1 i2 i3 i4 i5 hrow hb hne hv0 hcells hst2 henv2 hD2 hDlt hbx hrl
        cases b
        · gi_wp2
          exact ⟨(KeepsOthers.setCell _ _ _).from _, pre, _, 20, rfl, I4.out, I5.out, rfl, I1.out.setErr 20, I2.out.cells (KeepsOthers.setCell _ _ _) (Below.heap_setCell _ _ _ _ (by show w.heap.size + 1 + 1 + 1 ≠ w.heap.size + 1 + 1; omega)), Or.inl ⟨rfl, rfl⟩⟩
        · by_cases h8 : (accOf acc (k + 1) pre).length = 8192
          · have h8b : (((accOf acc (k + 1) pre).length : Int) == 8192) = true := by rw [h8]; rfl
            gi_wp2
            exact ⟨(KeepsOthers.setCell _ _ _).from _, pre, _, 3, rfl, I4.out, I5.out, rfl, I1.out.setErr 3, I2.out.cells (KeepsOthers.setCell _ _ _) (Below.heap_setCell _ _ _ _ (by show w.heap.size + 1 + 1 + 1 ≠ w.heap.size + 1 + 1; omega)), Or.inr ⟨rfl, h8, rfl⟩⟩
          · have h8b : (((accOf acc (k + 1) pre).length : Int) == 8192) = false := beq_eq_false_iff_ne.2 (by omega)
            have h5 := I5.out
            have hg1 : V.grownBy (V.setCell ⟨B, 1, none⟩ (.int .i64 ((k : Int) + 1))) (some B) := ⟨rfl, rfl, rfl, (KeepsWalks.setCell V _ _).size, fun j _ hj => Below.heap_setCell _ _ _ j (fun e => hj (by rw [e]))⟩
            have hrow1 := HRW.out.kept hg1 (.inr HNE.out)
            have hb1 := HB.out.kept hg1 (fun e => by have := Option.some.inj e; omega)
            have hl1 := I1.out.line.kept hg1 (fun e => by have := Option.some.inj e; omega)
            have he1 := I1.out.err.kept hg1 (fun e => by have := Option.some.inj e; omega)
            have hx1 := I3.out.kept hg1 (fun e => by have := Option.some.inj e; omega)
            have hv1s : (V.setCell ⟨B, 1, none⟩ (.int .i64 ((k : Int) + 1))).heap.size = V.heap.size := by simp
            have hsv : w.heap.size ≤ V.heap.size := I1.out.bel.size
            obtain ⟨i0, hi, hz0, hz1, hz2⟩ := info_parts infoTok
            have R1 := Lib.hid hrow1
            have B1 := Lib.hid hb1
            clear hrow1 hb1
            gi_wp2_with (gi_at_builtin; refine wpListIn_append_own _ rfl _ _ 24 rfl w.heap.size 27 i0 _ 4 40 Tryd.underlying24 hi hz0 hz1 hz2 rfl (by decide) _ _ _ rfl (R1.out.alloc _) ⟨V.heap.size, 0, none⟩ 1 1 [.int .u8 z.k, .int .i64 ((k : Int) + 1), .string z.t, .int .i64 z.n] rfl rfl (cells_new _ _ _ _ hv1s) (by simp [Value.oneCell']) (by unfold maxLen; omega) (by omega) (by simp; omega) ?_; intro v' w1 hown' hgrow _; obtain ⟨g', cap', rfl⟩ := ownsRow_succ hown'; obtain ⟨hv1, hv2, hr2, hk2, hb2⟩ := B1.out.appended (by decide) R1.out (by simp; omega) (Nat.le_refl _) hown' hgrow; have hc1 := hv1.cell; have hf1 := hv1.frozen; have V2 := Lib.hid hv2; have R2 := Lib.hid hr2; have K2 := Lib.hid hk2; have B2 := Lib.hid hb2; have G2 := Lib.hid hgrow; clear hv1 hv2 hr2 hk2 hb2 hgrow hown')
            have hK2 := (KeepsOthers.setCell V ⟨B, 1, none⟩ (.int .i64 ((k : Int) + 1))).trans K2.out
            have hra := R1.out.alloc (.cells #[.int .u8 z.k, .int .i64 ((k : Int) + 1), .string z.t, .int .i64 z.n] 27)
            have hx2 := ((hx1.alloc (.cells #[.int .u8 z.k, .int .i64 ((k : Int) + 1), .string z.t, .int .i64 z.n] 27)).kept G2.out ((hx1.alloc _).not_row (by decide) hra)).other (by omega : W.heap.size ≠ w.heap.size) (.slice (some ⟨g', 0, none⟩) ((accOf acc (k + 1) pre).length + 1) cap')
            have hl2 := ((hl1.alloc (.cells #[.int .u8 z.k, .int .i64 ((k : Int) + 1), .string z.t, .int .i64 z.n] 27)).kept G2.out ((hl1.alloc _).not_row (by decide) hra)).other (by omega : w.heap.size + 1 ≠ w.heap.size) (.slice (some ⟨g', 0, none⟩) ((accOf acc (k + 1) pre).length + 1) cap')
            have he2 := ((he1.alloc (.cells #[.int .u8 z.k, .int .i64 ((k : Int) + 1), .string z.t, .int .i64 z.n] 27)).kept G2.out ((he1.alloc _).not_row (by decide) hra)).other (by omega : w.heap.size + 1 + 1 ≠ w.heap.size) (.slice (some ⟨g', 0, none⟩) ((accOf acc (k + 1) pre).length + 1) cap')
            have henv1 := I2.out.cells (KeepsOthers.setCell V ⟨B, 1, none⟩ (.int .i64 ((k : Int) + 1))) (Below.heap_setCell _ _ _ _ (by show w.heap.size + 1 + 1 + 1 ≠ B; omega))
            have henv1a := henv1.below ((Below.refl _ _).alloc (Nat.le_refl _) (.cells #[.int .u8 z.k, .int .i64 ((k : Int) + 1), .string z.t, .int .i64 z.n] 27))
            have henv2 := henv1.cells K2.out ((Below.heap_setCell _ _ _ _ (by show w.heap.size + 1 + 1 + 1 ≠ w.heap.size; omega)).trans ((G2.out.block _ (Array.getElem?_eq_some_iff.1 henv1a.blk).1 (henv1a.not_row hra)).trans (henv1a.blk.trans henv1.blk.symm)))
            have hlen2 : (accOf acc (k + 1) (pre ++ [(z, true)])).length = (accOf acc (k + 1) pre).length + 1 := by rw [accOf_snoc]; simp
            have htok2 : tokCells (accOf acc (k + 1) (pre ++ [(z, true)])) = tokCells (accOf acc (k + 1) pre) ++ [.int .u8 z.k, .int .i64 ((k : Int) + 1), .string z.t, .int .i64 z.n] := by rw [accOf_snoc, tokCells_append]; rfl
            refine ⟨hK2.from _, ⟨hK2.walks, hx2.cell.trans I3.out.cell.symm⟩, ⟨⟨⟨_, V2.out, ?_⟩, hl2, he2, ?_⟩, henv2, hx2⟩, ?_, ?_⟩
            · rw [hlen2, htok2]; exact R2.out
            · exact (I1.out.bel.setCell (p := ⟨B, 1, none⟩) (by show w.heap.size ≤ B; omega) _).trans B2.out
            · rw [List.all_append, I4.out]; rfl
            · rw [hlen2]; omega
      case done =>
        rintro D ys V hD0 hS ⟨⟨i1, i2, i3⟩, i4, i5⟩ hK0
        have hys := hS.items i4
        have hline : (linesL s.toList)[k]? = some x.toList := by rw [← HSL.out, List.getElem?_map, HX.out]; rfl
        have hdrop : (linesL s.toList).drop k = x.toList :: (linesL s.toList).drop (k + 1) := List.drop_eq_getElem?_toList_append.trans (by rw [hline]; rfl)
        have hres : foldLines ((linesL s.toList).drop (k + 1)) (k + 1) (accOf acc (k + 1) ys) = r := by
          rw [← HFO.out, hdrop, foldLines, ← hys, foldI_good i4 i5]; rfl
        have hD3 : isMark (D :: Ds) V w.heap.size := fun E hE => by
          rcases List.mem_cons.1 hE with rfl | hE
          · exact ⟨by omega, hK0⟩
          · exact ⟨(hD2 E hE).1, i2.marks E hE⟩
        have hn3 : (D :: Ds).Nodup := List.nodup_cons.2 ⟨fun h => by have := hDlt D h; omega, HN.out⟩
        have H1 := Lib.hid i1
        have H2 := Lib.hid (⟨i2.blk, fun E hE => (hD3 E hE).2⟩ : TokEnv w ls (D :: Ds) V)
        have H3 := Lib.hid hD3
        have H4 := Lib.hid hn3
        have H5 := Lib.hid hres
        have H6 := Lib.hid i5
        clear i1 i2 i3 i4 i5 hys hline hdrop hres hD3 hn3 hS hK0 hst2 henv2 hD2 hDlt hbx
        gi_wp2
        refine ⟨⟨k + 1, accOf acc (k + 1) ys, D :: Ds, _, _, _, _, _, _, _, _, _, ⟨by omega, H5.out, H6.out, H1.out, H2.out, H3.out, H4.out⟩, rfl⟩, ?_⟩
        simp [intOf]
        omega
      case stop =>
        rintro D c p V hD0 hS ⟨q, y, er, rfl, i4, i5, rfl, i1, i2, i6⟩ hK0
        obtain ⟨t, ht⟩ := hS.front i4
        have hline : (linesL s.toList)[k]? = some x.toList := by rw [← HSL.out, List.getElem?_map, HX.out]; rfl
        have hdrop : (linesL s.toList).drop k = x.toList :: (linesL s.toList).drop (k + 1) := List.drop_eq_getElem?_toList_append.trans (by rw [hline]; rfl)
        have hres : ¬ er = 0 ∧ r = .no (k + 1) er := by
          rcases i6 with ⟨hy, rfl⟩ | ⟨hy, hl, rfl⟩
          · exact ⟨by decide, by rw [← HFO.out, hdrop, foldLines, ht, foldI_bad i4 i5 hy]; rfl⟩
          · exact ⟨by decide, by rw [← HFO.out, hdrop, foldLines, ht, foldI_long i4 hl hy]; rfl⟩
        have hD3 : isMark (D :: Ds) V w.heap.size := fun E hE => by
          rcases List.mem_cons.1 hE with rfl | hE
          · exact ⟨by omega, hK0⟩
          · exact ⟨(hD2 E hE).1, i2.marks E hE⟩
        have hn3 : (D :: Ds).Nodup := List.nodup_cons.2 ⟨fun h => by have := hDlt D h; omega, HN.out⟩
        have H1 := Lib.hid i1
        have H3 := Lib.hid hD3
        have H4 := Lib.hid hn3
        have H5 := Lib.hid hres
        clear i1 i2 i4 i5 i6 hline hdrop hres hD3 hn3 hS hK0 hst2 henv2 hD2 hDlt hbx ht
        gi_wp2
        exact HF.out (accOf acc (k + 1) q) (k + 1) er _ _ _ _ _ _ _ _ _ _ _ _ (D :: Ds) V H1.out H3.out H4.out (Or.inr H5.out)
    · obtain rfl : k = N + 1 := by omega
      have hall : (linesL s.toList).drop (N + 1) = [] := List.drop_eq_nil_of_le (by rw [← HSL.out, List.length_map]; omega)
      have hres : r = .ok acc := by rw [← HFO.out, hall]; rfl
      have HRS := Lib.hid hres
      clear hfold hst henv hD hn hres hall
      gi_wp2
      exact HF.out acc (N + 1) 0 _ _ _ _ _ _ _ _ _ _ _ _ Ds W HS.out HD.out HN.out (Or.inl ⟨rfl, HRS.out⟩)

/-- **lex.Tokens.** -/
theorem tokens_reads (s : ByteArray) (w : World) (hm : MaxLenOk w) (hs : s.size ≤ 140737488355328) : Calls Tryd.prog 24 #[.string s] w (TokRes w (readL s.toList)) := callsIn_wide.1 (tokens_in s w hm hs)

end Go.Proofs.YtalbcgbfefgjfaaDoor
