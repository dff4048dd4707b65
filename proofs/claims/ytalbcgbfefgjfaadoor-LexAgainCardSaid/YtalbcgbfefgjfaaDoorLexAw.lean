
/-
  THE LAWS' OWN reads, fails, name, sym, integer, awake.
-/
import Derived.Test.YtalbcgbfefgjfaaDoorLexCp
import Derived.Test.YtalbcgbfefgjfaaDoorLexZ
import Derived.Test.YtalbcgbfefgjfaaDoorLexF
namespace Go.Proofs.YtalbcgbfefgjfaaDoor
open Go Go.RowKit

theorem tokCells_get : ∀ (zs : List TokR) (i : Nat) (z : TokR) (j : Nat), zs[i]? = some z → j < 4 → (tokCells zs)[i * 4 + j]? = (tokCell z)[j]?
  | [], i, z, j, h, _ => by simp at h
  | y :: zs, 0, z, j, h, hj => by
    simp at h
    subst h
    rw [tokCells, List.getElem?_append_left (by simp [tokCell]; omega)]
    simp
  | y :: zs, i + 1, z, j, h, hj => by
    rw [tokCells, List.getElem?_append_right (by simp [tokCell]; omega)]
    have e : (i + 1) * 4 + j - (tokCell y).length = i * 4 + j := by simp [tokCell]; omega
    rw [e]
    exact tokCells_get zs i z j (by simpa using h) hj
/-- Tokens in a block of cells. -/
theorem toks_of_cells {W : World} {g n : Nat} {cs : Array Value} {t : TypeId} {fz : Nat × Nat} {zs : List TokR} (hg : W.heap[g]? = some (.cells cs t fz)) (hn : zs.length = n) (hc : cs.toList.take (n * 4) = tokCells zs) : Toks W (some ⟨g, 0, none⟩) n zs := by
  refine ⟨hn, fun i z hz => ⟨_, rfl, ?_⟩⟩
  have hi := (List.getElem?_eq_some_iff.1 hz).1
  have ea : (⟨g, 0, none⟩ : Addr).add (i * 4) = ⟨g, i * 4, none⟩ := by simp [Addr.add]; exact fun h => h.symm
  have key : ∀ j, j < 4 → W.cell? ⟨g, i * 4 + j, none⟩ = (tokCell z)[j]? := fun j hj => by
    rw [← tokCells_get zs i z j hz hj, ← hc, List.getElem?_take_of_lt (by omega)]
    simp [World.cell?, hg]
  rw [ea]
  exact ⟨key 0 (by omega), key 1 (by omega), key 2 (by omega), key 3 (by omega)⟩
theorem toks_of_row {W : World} {base : Nat} {p : Option Addr} {n cap : Nat} {zs : List TokR} (h : W.ownsRow base 27 4 (.slice p n cap) n (tokCells zs)) (hn : zs.length = n) : Toks W p n zs := by
  rcases h.2 with ⟨he, h0⟩ | ⟨g, c, cur, he, _, hg, _, _, _, hc⟩
  · subst h0
    obtain rfl : zs = [] := List.length_eq_zero_iff.1 hn
    exact ⟨rfl, fun i z hz => by simp at hz⟩
  · cases he
    exact toks_of_cells hg hn hc

theorem like_lines (xs : List Tri) (a b : Int) : allB tokLike (xs.map (tkOf a)) (xs.map (tkOf b)) = true := by
  induction xs with
  | nil => rfl
  | cons x xs ih =>
    simp only [List.map_cons, allB, ih, Bool.and_true]
    unfold tokLike likeB tkOf
    simp

theorem lname_any (s : ByteArray) (w : World) : Calls Tryd.prog 49 #[.string s] w (Gives w (.agg #[.int .u8 1, .int .i64 0, .string s, .int .i64 0])) := by
  go_enter Tryd.func49, Tryd.ntmps49
  go_wp2
  exact bodyPost_ret (v := .agg #[.int .u8 1, .int .i64 0, .string s, .int .i64 0]) (by simp [results, Tryd.results49, go_sem, *]) rfl ⟨rfl, by (repeat' (first | (with_reducible exact Below.refl _ _) | (with_reducible assumption) | (with_reducible refine boxed ?_ _) | (with_reducible refine Below.drew ?_) | (with_reducible refine after ?_ (by assumption))))⟩
theorem lsym_any (s : ByteArray) (w : World) : Calls Tryd.prog 41 #[.string s] w (Gives w (.agg #[.int .u8 4, .int .i64 0, .string s, .int .i64 0])) := by
  go_enter Tryd.func41, Tryd.ntmps41
  go_wp2
  exact bodyPost_ret (v := .agg #[.int .u8 4, .int .i64 0, .string s, .int .i64 0]) (by simp [results, Tryd.results41, go_sem, *]) rfl ⟨rfl, by (repeat' (first | (with_reducible exact Below.refl _ _) | (with_reducible assumption) | (with_reducible refine boxed ?_ _) | (with_reducible refine Below.drew ?_) | (with_reducible refine after ?_ (by assumption))))⟩
theorem linteger_any (n : Int) (w : World) : Calls Tryd.prog 40 #[.int .i64 n] w (Gives w (.agg #[.int .u8 3, .int .i64 0, .string ⟨#[]⟩, .int .i64 n])) := by
  go_enter Tryd.func40, Tryd.ntmps40
  go_wp2
  exact bodyPost_ret (v := .agg #[.int .u8 3, .int .i64 0, .string ⟨#[]⟩, .int .i64 n]) (by simp [results, Tryd.results40, go_sem, *]) rfl ⟨rfl, by (repeat' (first | (with_reducible exact Below.refl _ _) | (with_reducible assumption) | (with_reducible refine boxed ?_ _) | (with_reducible refine Below.drew ?_) | (with_reducible refine after ?_ (by assumption))))⟩

theorem reads_yes (s : ByteArray) (p : Option Addr) (n cp : Nat) (xs : List Tri) (w : World) (hx : Toks w p n (xs.map (tkOf 0))) (hn : n ≤ 1000) (hm : MaxLenOk w) (hs : s.size ≤ 1000) (hr : readL s.toList = .ok (xs.map (tkOf 1))) :
    Calls Tryd.prog 39 #[.string s, .slice p n cp] w (Gives w (.bool true)) := by
  have HX := Lib.hid hx
  have HR := Lib.hid hr
  have HM := Lib.hid hm
  have hl : (xs.map (tkOf 1)).length = n := by rw [List.length_map, ← hx.1, List.length_map]
  have HL := Lib.hid hl
  clear hx hr hm hl
  go_enter Tryd.func39, Tryd.ntmps39
  go_wp2_with (first
    | (go_at_call 24; refine (tokens_reads _ _ HM.out (by omega)).mono ?_; rw [HR.out]; rintro e w1 ⟨q, cap, rfl, hrow, hb⟩; simp only [Rd.toks, HL.out] at hrow; have HT := Lib.hid (toks_of_row hrow HL.out); have HB := Lib.hid hb; simp only [Rd.toks, Rd.line, Rd.err, HL.out]; clear hrow hb)
    | (go_at_call 22; refine (same_any _ _ _ _ _ _ _ _ _ (HX.out.below HB.out) HT.out (by omega) (by omega)).mono ?_; rw [like_lines]; rintro e w2 ⟨rfl, hb2⟩; have HB2 := Lib.hid (after HB.out hb2); clear hb2))
  go_returns
  exact ⟨rfl, HB2.out⟩

theorem fails_yes (s : ByteArray) (at_ : Nat) (w : World) (hm : MaxLenOk w) (hs : s.size ≤ 1000) (hr : readL s.toList = .no at_ 20) :
    Calls Tryd.prog 38 #[.string s, .int .i64 at_] w (Gives w (.bool true)) := by
  have HR := Lib.hid hr
  have HM := Lib.hid hm
  clear hr hm
  go_enter Tryd.func38, Tryd.ntmps38
  go_wp2_with (first
    | (go_at_call 24; refine (tokens_reads _ _ HM.out (by omega)).mono ?_; rw [HR.out]; rintro e w1 ⟨q, cap, rfl, _, hb⟩; have HB := Lib.hid hb; simp only [Rd.toks, Rd.line, Rd.err, List.length_nil]; clear hb))
  go_returns
  exact ⟨rfl, HB.out⟩

end Go.Proofs.YtalbcgbfefgjfaaDoor
