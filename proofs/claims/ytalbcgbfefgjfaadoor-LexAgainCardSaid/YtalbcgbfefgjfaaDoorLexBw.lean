
/-
  A strings.Builder OF THE CALL's OWN: what it holds, and what stands beside it.
-/
import Derived.Test.YtalbcgbfefgjfaaDoorLexJm
import Derived.Test.YtalbcgbfefgjfaaDoorShelf
import Derived.Shelf.Strings.BuilderK
import Derived.RangeFuncBox
namespace Go.Proofs.YtalbcgbfefgjfaaDoor
open Go Go.RowKit

/-- The builder in block b holds these bytes. -/
def Bld (b : Nat) (l : List UInt8) (W : World) : Prop := Lib.IsBuilderF 77 5 b b (Lib.byteCells l) W
theorem Bld.new (W : World) : Bld W.heap.size [] (W.alloc (.cells #[.pointer none, .slice none 0 0] 77)) :=
  .inl ⟨Nat.le_refl _, _, World.alloc_heap_new W _, World.ownsRowF_of (World.ownsRow_nil _ _ _ _), by simp [Value.ownBlock]⟩
theorem builder_below {T e : TypeId} {B b : Nat} {p : Value} {bs : List Value} {X Y : World} (h : Lib.BuilderAtF T e B b p bs X) (hb : Below X.heap.size X Y) : Lib.BuilderAtF T e B b p bs Y := by
  obtain ⟨h1, v, h2, h3, h4⟩ := h
  exact ⟨h1, v, (hb.block _ (Array.getElem?_eq_some_iff.1 h2).1).trans h2, h3.kept (row := none) ⟨hb.os, hb.tape, hb.output, hb.size, fun k hk _ => hb.block k hk⟩ (by cases v.ownBlock <;> simp), h4⟩
theorem Bld.below {b : Nat} {l : List UInt8} {X Y : World} (h : Bld b l X) (hb : Below X.heap.size X Y) : Bld b l Y := h.elim (fun x => .inl (builder_below x hb)) (fun x => .inr (builder_below x hb))
theorem Bld.of {b : Nat} {l m : List UInt8} {W : World} (h : Lib.BuilderAtF 77 5 b b (.pointer (some ⟨b, 0, none⟩)) (Lib.byteCells l ++ Lib.byteCells m) W) : Bld b (l ++ m) W := by
  unfold Bld
  rw [Lib.byteCells_append]
  exact .inr h
theorem Bld.lt {b : Nat} {l : List UInt8} {W : World} (h : Bld b l W) : b < W.heap.size := by
  rcases h with ⟨_, v, h2, _⟩ | ⟨_, v, h2, _⟩ <;> exact (Array.getElem?_eq_some_iff.1 h2).1

/-- (*strings.Builder).WriteString, WriteByte, Len, String. -/
theorem bld_string (b : Nat) (l : List UInt8) (s : ByteArray) (w : World) (h : Bld b l w) (hlen : l.length + s.size ≤ 140737488355328) :
    Calls Tryd.prog 59 #[.pointer (some ⟨b, 0, none⟩), .string s] w fun e w' => e = .returned (.tuple #[.int .i64 s.size, .nilIface]) ∧ Bld b (l ++ s.toList) w' ∧ Below b w w' ∧ Lib.OthersKept 5 (some b) w w' :=
  (Tryd.Builder_WriteString_k b b _ s w h (by rw [Lib.byteCells_length]; exact hlen) (Nat.le_of_lt h.lt)).mono fun e w' ⟨he, hb, hbel, hk⟩ => ⟨he, Bld.of (by rw [Lib.strCells_eq, ← ByteArray.toList_eq] at hb; exact hb), hbel, hk⟩
theorem bld_byte (b : Nat) (l : List UInt8) (c : UInt8) (w : World) (h : Bld b l w) (hlen : l.length + 1 ≤ 140737488355328) :
    Calls Tryd.prog 60 #[.pointer (some ⟨b, 0, none⟩), .int .u8 c.toNat] w fun e w' => e = .returned .nilIface ∧ Bld b (l ++ [c]) w' ∧ Below b w w' ∧ Lib.OthersKept 5 (some b) w w' :=
  (Tryd.Builder_WriteByte_k b b _ c.toNat w h (by rw [Lib.byteCells_length]; exact hlen) (Nat.le_of_lt h.lt)).mono fun e w' ⟨he, hb, hbel, hk⟩ => ⟨he, Bld.of (by exact hb), hbel, hk⟩
theorem bld_len (b : Nat) (l : List UInt8) (w : World) (h : Bld b l w) :
    Calls Tryd.prog 58 #[.pointer (some ⟨b, 0, none⟩)] w fun e w' => e = .returned (.int .i64 l.length) ∧ w = w' :=
  (Tryd.Builder_Len_f b b _ w h).mono fun e w' ⟨he, hw⟩ => ⟨by rw [he, Lib.byteCells_length], hw.symm⟩
theorem bld_text (b : Nat) (l : List UInt8) (w : World) (h : Bld b l w) :
    Calls Tryd.prog 61 #[.pointer (some ⟨b, 0, none⟩)] w fun e w' => e = .returned (.string (str l)) ∧ Below b w w' :=
  (Tryd.Builder_String_any_k b b l w h (Nat.le_of_lt h.lt)).mono fun _ _ ⟨he, _, hb, _⟩ => ⟨he, hb⟩

/-- A block of cells that is no row of bytes, and not the builder's, stands behind a write. -/
theorem others_block {b g : Nat} {X Y : World} (h : Lib.OthersKept 5 (some b) X Y) {c : Array Value} {t : TypeId} {fz : Nat × Nat} (hg : X.heap[g]? = some (.cells c t fz)) (hne : g ≠ b) (ht : t ≠ 5) : Y.heap[g]? = some (.cells c t fz) :=
  h g _ hg (fun e => hne (Option.some.inj e)) (fun c' fz' e => ht (by cases e; rfl))

theorem cell_of_block2 {W : World} {g : Nat} {u v : Value} {t : TypeId} {fz : Nat × Nat} (h : W.heap[g]? = some (.cells #[u, v] t fz)) : W.cell? ⟨g, 0, none⟩ = some u ∧ W.cell? ⟨g, 1, none⟩ = some v := by
  constructor <;> simp [World.cell?, h]

end Go.Proofs.YtalbcgbfefgjfaaDoor
