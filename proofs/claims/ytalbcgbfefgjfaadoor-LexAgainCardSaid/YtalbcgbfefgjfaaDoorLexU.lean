
/-
  WHAT lex.Tokens' VARIABLES HOLD.
-/
import Derived.Test.YtalbcgbfefgjfaaDoorLexY
import Derived.RangeFuncBox
import Derived.Maps.AppendAt
import Derived.OneCell
namespace Go.Proofs.YtalbcgbfefgjfaaDoor
open Go Go.RowKit Go.Shelf

def tokCell (z : TokR) : List Value := [.int .u8 z.k, .int .i64 z.l, .string z.t, .int .i64 z.n]
def tokCells : List TokR → List Value
  | [] => []
  | z :: zs => tokCell z ++ tokCells zs
theorem tokCells_length : ∀ zs : List TokR, (tokCells zs).length = zs.length * 4
  | [] => rfl
  | z :: zs => by rw [tokCells, List.length_append, tokCells_length zs]; simp [tokCell]; omega
theorem tokCells_append : ∀ a b : List TokR, tokCells (a ++ b) = tokCells a ++ tokCells b
  | [], _ => rfl
  | z :: a, b => by rw [List.cons_append, tokCells, tokCells_append a b, tokCells, List.append_assoc]

/-- The variables: the tokens, the line, the error. -/
structure TokSt (w : World) (acc : List TokR) (line er : Int) (W : World) : Prop where
  row : ∃ v, Boxed W w.heap.size 24 v ∧ W.ownsRow w.heap.size 27 4 v acc.length (tokCells acc)
  line : Boxed W (w.heap.size + 1) 3 (.int .i64 line)
  err : Boxed W (w.heap.size + 1 + 1) 30 (.int .i64 er)
  bel : Below w.heap.size w W
/-- The lines, and the blocks for the rounds' deferred calls. -/
structure TokEnv (w : World) (ls : List ByteArray) (Ds : List Nat) (W : World) : Prop where
  blk : W.heap[w.heap.size + 1 + 1 + 1]? = some (.cells (ls.map Value.string).toArray 9 (0, 0))
  marks : ∀ D ∈ Ds, W.heap[D]? = some (.deferred (some []))

theorem TokEnv.piece {w : World} {ls : List ByteArray} {Ds : List Nat} {W : World} (h : TokEnv w ls Ds W) (i : Nat) (x : ByteArray) (hx : ls[i]? = some x) : W.cell? ⟨w.heap.size + 1 + 1 + 1, i, none⟩ = some (.string x) := by
  simp [World.cell?, h.blk, hx]
theorem TokEnv.not_row {w : World} {ls : List ByteArray} {Ds : List Nat} {W : World} (h : TokEnv w ls Ds W) {base size k : Nat} {v : Value} {xs : List Value} (hr : W.ownsRow base 27 size v k xs) : some (w.heap.size + 1 + 1 + 1) ≠ v.ownBlock := by
  rcases hr.2 with ⟨rfl, _⟩ | ⟨g, cap, cur, rfl, _, hgb, _⟩
  · simp [Value.ownBlock]
  · intro e'
    obtain rfl : w.heap.size + 1 + 1 + 1 = g := by simpa [Value.ownBlock] using e'
    have := h.blk.symm.trans hgb
    simp at this
/-- New cells behind the heap's end. -/
theorem cells_new (W : World) (xs : List Value) (t : TypeId) (n : Nat) (hn : W.heap.size = n) : ∀ j u, xs[j]? = some u → (W.alloc (.cells xs.toArray t)).cell? ((⟨n, 0, none⟩ : Addr).add j) = some u := by
  intro j u h
  subst hn
  have e : (⟨W.heap.size, 0, none⟩ : Addr).add j = ⟨W.heap.size, j, none⟩ := by simp [Addr.add]; exact fun h => h.symm
  rw [e]
  rw [World.cell?_alloc_at _ _ _ _ (by simp)]
  simp [h]
theorem infoTok : (Tryd.prog.info? 27).map (fun i => (i.zero, i.size, i.bytes)) = some (some (.agg #[.int .u8 0, .int .i64 0, .string ⟨#[]⟩, .int .i64 0]), 4, 40) := by kernel_rfl

theorem TokSt.turn {w : World} {acc : List TokR} {line er : Int} {X Y : World} {row : Option Nat} (h : TokSt w acc line er X) (hg : X.grownBy Y row)
    (hr : ∀ r, row = some r → w.heap.size ≤ r ∧ ∃ o : Obj, X.heap[r]? = some o ∧ o.isCells = false) : TokSt w acc line er Y := by
  have hr' : ∀ r, row = some r → ∃ o : Obj, X.heap[r]? = some o ∧ o.isCells = false := fun r e => (hr r e).2
  obtain ⟨v, h1, h2⟩ := h.row
  obtain ⟨v', k1, k2, _⟩ := holdsRow_own w.heap.size w.heap.size 24 27 4 (fun _ : Unit => acc.length) (fun _ => tokCells acc) (fun _ _ => True) () X Y row ⟨v, h1, h2, trivial⟩ hg hr'
  exact ⟨⟨v', k1, k2⟩, boxed_own _ _ (fun _ : Unit => .int .i64 line) () X Y row h.line hg hr', boxed_own _ _ (fun _ : Unit => .int .i64 er) () X Y row h.err hg hr',
    ownFrom_below (β := Unit) (n₀ := w.heap.size) (B := w.heap.size) (Nat.le_refl _) (Nat.le_refl _) () X Y row h.bel hg hr⟩
theorem TokEnv.turn {w : World} {ls : List ByteArray} {Ds : List Nat} {X Y : World} {row : Option Nat} {B : Nat} (h : TokEnv w ls Ds X) (hg : X.grownBy Y row)
    (hr : ∀ r, row = some r → B ≤ r ∧ ∃ o : Obj, X.heap[r]? = some o ∧ o.isCells = false) (hD : ∀ D ∈ Ds, D < B) : TokEnv w ls Ds Y := by
  refine ⟨(grownBy_keeps_cells hg (fun r e => (hr r e).2) h.blk rfl).trans h.blk, fun D hm => ?_⟩
  have hd := h.marks D hm
  refine (hg.block D (Array.getElem?_eq_some_iff.1 hd).1 fun e => ?_).trans hd
  have := (hr D e.symm).1
  have := hD D hm
  omega

/-- A step that makes new blocks at most. -/
theorem TokSt.below {w : World} {acc : List TokR} {line er : Int} {X Y : World} (h : TokSt w acc line er X) (hb : Below X.heap.size X Y) : TokSt w acc line er Y :=
  h.turn (row := none) ⟨hb.os, hb.tape, hb.output, hb.size, fun k hk _ => hb.block k hk⟩ (fun _ e => by cases e)
theorem TokEnv.below {w : World} {ls : List ByteArray} {Ds : List Nat} {X Y : World} (h : TokEnv w ls Ds X) (hb : Below X.heap.size X Y) : TokEnv w ls Ds Y :=
  ⟨(hb.block _ (Array.getElem?_eq_some_iff.1 h.blk).1).trans h.blk, fun D hm => (hb.block D (Array.getElem?_eq_some_iff.1 (h.marks D hm)).1).trans (h.marks D hm)⟩
theorem TokEnv.cells {w : World} {ls : List ByteArray} {Ds : List Nat} {X Y : World} (h : TokEnv w ls Ds X) (hk : KeepsOthers X Y) (hp : Y.heap[w.heap.size + 1 + 1 + 1]? = X.heap[w.heap.size + 1 + 1 + 1]?) : TokEnv w ls Ds Y :=
  ⟨hp.trans h.blk, fun D hm => hk.same D _ (h.marks D hm) rfl⟩

/-- A store into a block that is none of the variables', and not the tokens' own. -/
theorem TokSt.other {w : World} {acc : List TokR} {line er : Int} {X : World} (h : TokSt w acc line er X) {a : Addr} (u : Value) (hB : w.heap.size + 1 + 1 < a.block)
    (hne : ∀ v, X.cell? ⟨w.heap.size, 0, none⟩ = some v → v.ownBlock ≠ some a.block) : TokSt w acc line er (X.setCell a u) := by
  obtain ⟨v, h1, h2⟩ := h.row
  have hg : X.grownBy (X.setCell a u) (some a.block) := ⟨rfl, rfl, rfl, (KeepsWalks.setCell X _ u).size, fun k _ hk => Below.heap_setCell _ _ _ k (fun e => hk (by rw [e]))⟩
  exact ⟨⟨v, h1.kept hg (fun e => by have := Option.some.inj e; omega), h2.kept hg (Or.inr (hne v h1.cell))⟩, h.line.kept hg (fun e => by have := Option.some.inj e; omega), h.err.kept hg (fun e => by have := Option.some.inj e; omega), h.bel.setCell (by omega) _⟩
theorem TokSt.setErr {w : World} {acc : List TokR} {line er : Int} {X : World} (h : TokSt w acc line er X) (er' : Int) : TokSt w acc line er' (X.setCell ⟨w.heap.size + 1 + 1, 0, none⟩ (.int .i64 er')) := by
  obtain ⟨v, h1, h2⟩ := h.row
  exact ⟨⟨v, h1.other (by omega) _, h2.kept (grownBy_setCell' X _ _) (.inr (h.err.not_row (by decide) h2).symm)⟩, h.line.other (by omega) _, h.err.set _, h.bel.setCell (p := ⟨w.heap.size + 1 + 1, 0, none⟩) (by simp; omega) _⟩
theorem TokSt.setLine {w : World} {acc : List TokR} {line er : Int} {X : World} (h : TokSt w acc line er X) (line' : Int) : TokSt w acc line' er (X.setCell ⟨w.heap.size + 1, 0, none⟩ (.int .i64 line')) := by
  obtain ⟨v, h1, h2⟩ := h.row
  exact ⟨⟨v, h1.other (by omega) _, h2.kept (grownBy_setCell' X _ _) (.inr (h.line.not_row (by decide) h2).symm)⟩, h.line.set _, h.err.other (by omega) _, h.bel.setCell (p := ⟨w.heap.size + 1, 0, none⟩) (by simp) _⟩
theorem TokSt.setRow {w : World} {acc : List TokR} {line er : Int} {X : World} (h : TokSt w acc line er X) {p : Option Addr} {cap : Nat} (hb : Boxed X w.heap.size 24 (.slice p acc.length cap)) : TokSt w acc line er (X.setCell ⟨w.heap.size, 0, none⟩ (.slice p acc.length cap)) := by
  obtain ⟨v, h1, h2⟩ := h.row
  have e : v = .slice p acc.length cap := Option.some.inj (h1.cell.symm.trans hb.cell)
  subst e
  exact ⟨⟨_, h1.set _, h2.kept (grownBy_setCell' X _ _) (.inr (h1.not_row (by decide) h2).symm)⟩, h.line.other (by omega) _, h.err.other (by omega) _, h.bel.setCell (p := ⟨w.heap.size, 0, none⟩) (by simp) _⟩
theorem TokSt.setNil {w : World} {acc : List TokR} {line er : Int} {X : World} (h : TokSt w acc line er X) : TokSt w [] line er (X.setCell ⟨w.heap.size, 0, none⟩ (.slice none 0 0)) := by
  obtain ⟨v, h1, _⟩ := h.row
  exact ⟨⟨_, h1.set _, World.ownsRow_nil _ _ _ _⟩, h.line.other (by omega) _, h.err.other (by omega) _, h.bel.setCell (p := ⟨w.heap.size, 0, none⟩) (by simp) _⟩
theorem TokSt.drew {w : World} {acc : List TokR} {line er : Int} {X : World} (h : TokSt w acc line er X) : TokSt w acc line er X.drew := h.below (Below.drew (Below.refl _ _))
/-- The tokens' slice is a slice of so many. -/
theorem TokSt.slice {w : World} {acc : List TokR} {line er : Int} {X : World} (h : TokSt w acc line er X) : ∃ p cap, Boxed X w.heap.size 24 (.slice p acc.length cap) ∧ X.ownsRow w.heap.size 27 4 (.slice p acc.length cap) acc.length (tokCells acc) := by
  obtain ⟨v, h1, h2⟩ := h.row
  rcases h2.2 with ⟨rfl, h0⟩ | ⟨g, cap, cur, rfl, _⟩
  · rw [h0] at h2 ⊢
    exact ⟨none, 0, h1, h2⟩
  · exact ⟨_, cap, h1, h2⟩

theorem TokSt.start (w : World) : TokSt w [] 0 0 (((w.alloc (.cells #[.slice none 0 0] 24)).alloc (.cells #[.int .i64 0] 3)).alloc (.cells #[.int .i64 0] 30)) := by
  have b1 := ((Boxed.new w 24 (.slice none 0 0)).alloc (.cells #[.int .i64 0] 3)).alloc (.cells #[.int .i64 0] 30)
  have b2 := (Boxed.new (w.alloc (.cells #[.slice none 0 0] 24)) 3 (.int .i64 0)).alloc (.cells #[.int .i64 0] 30)
  have b3 := Boxed.new ((w.alloc (.cells #[.slice none 0 0] 24)).alloc (.cells #[.int .i64 0] 3)) 30 (.int .i64 0)
  simp only [World.size_alloc] at b2 b3
  exact ⟨⟨_, b1, World.ownsRow_nil _ _ _ _⟩, b2, b3, by (repeat' (first | (with_reducible exact Below.refl _ _) | (with_reducible assumption) | (with_reducible refine boxed ?_ _) | (with_reducible refine Below.drew ?_) | (with_reducible refine after ?_ (by assumption))))⟩

/-- strings.Split at a line feed gives the lines. -/
theorem split_lines (s : ByteArray) : (Lib.splitB ⟨#[10]⟩ 0 (Lib.countB s ⟨#[10]⟩) s).map (·.toList) = linesL s.toList := by
  have h := Lib.splitB_data ⟨#[10]⟩ 0 (Lib.countB s ⟨#[10]⟩) s
  have e : Lib.countB s ⟨#[10]⟩ = s.data.toList.count 10 := Lib.count_one 10 s.data.toList
  have h2 := split_feeds (s.data.toList.count 10) s.data.toList rfl
  rw [show ((fun x : ByteArray => x.toList) = fun x => x.data.toList) from funext fun x => ByteArray.toList_eq x, h, ByteArray.toList_eq, e]
  exact h2
theorem split_count (s : ByteArray) : Lib.countB s ⟨#[10]⟩ = feeds s.toList := by
  rw [ByteArray.toList_eq]
  exact Lib.count_one 10 s.data.toList
theorem TokEnv.start (w : World) (ls : List ByteArray) : TokEnv w ls [] ((((w.alloc (.cells #[.slice none 0 0] 24)).alloc (.cells #[.int .i64 0] 3)).alloc (.cells #[.int .i64 0] 30)).alloc (.cells (ls.map Value.string).toArray 9)) := by
  refine ⟨?_, fun D h => by simp at h⟩
  have := World.alloc_heap_new (((w.alloc (.cells #[.slice none 0 0] 24)).alloc (.cells #[.int .i64 0] 3)).alloc (.cells #[.int .i64 0] 30)) (.cells (ls.map Value.string).toArray 9)
  simpa using this

/-- The iterator's blocks. -/
theorem Boxed.block_ne {W : World} {B g : Nat} {t e : TypeId} {v : Value} (h : Boxed W B t v) (hte : t ≠ e) {base size k : Nat} {u : Value} {xs : List Value} (hr : W.ownsRow base e size u k xs) (hg : u.ownBlock = some g) : B ≠ g := fun e' => h.not_row hte hr (by rw [hg, e'])

end Go.Proofs.YtalbcgbfefgjfaaDoor
