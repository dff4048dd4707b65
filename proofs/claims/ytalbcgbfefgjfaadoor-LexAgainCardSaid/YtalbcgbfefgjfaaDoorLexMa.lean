
/-
  THE MATHEMATICS OF LexAgain: the tokens of a text exist, their lines rise and are the text's; written line by line they are read back.
-/
import Derived.Test.YtalbcgbfefgjfaaDoorLexMl
import Derived.Test.YtalbcgbfefgjfaaDoorLexJs
namespace Go.Proofs.YtalbcgbfefgjfaaDoor
open Go Go.RowKit

theorem may_good {t : List UInt8} (h : goodB t = true) (line : Int) : mayT (tokAt t line) = true := by
  rw [good_kind] at h
  rw [tokAt_C]
  unfold tokC mayT mayB
  unfold kindL at h ⊢
  by_cases h1 : nameB t = true
  · simp [h1, str_toList]
  · by_cases h2 : keyL.contains t = true
    · simp only [h1, h2, if_true]
      simp [keyB, str_toList, h2]
      simpa using h2
    · by_cases h4 : symL.contains t = true
      · simp only [h1, h2, h4, if_true]
        simp [symB, str_toList]
        simpa using h4
      · by_cases h3 : litB t = true
        · simp only [h1, h2, h4, h3, if_true]
          have hl := h3
          unfold litB at hl
          simp only [Bool.and_eq_true, decide_eq_true_eq] at hl
          have hb := decN_bound t t.length (Nat.le_refl _) (fun i hi => by
            have := List.all_eq_true.1 hl.2.1 (t[i]'hi) (List.getElem_mem hi)
            rw [List.getD_eq_getElem?_getD, List.getElem?_eq_getElem hi]; exact this)
          rw [List.take_length] at hb
          have h0 := hb.1
          have he : (⟨#[]⟩ : ByteArray).toList = [] := str_toList []
          simp [he]
          omega
        · rw [if_neg h1, if_neg h2, if_neg h4, if_neg h3] at h; simp at h

/-- The tokens behind which reading stands at a line: they exist, and their lines rise up to it. -/
def Rose (line : Nat) (acc : List TokR) : Prop :=
  (∀ x ∈ acc, mayT x = true ∧ 1 ≤ x.l ∧ x.l ≤ line) ∧ ∀ (i : Nat) (x y : TokR), acc[i]? = some x → acc[i + 1]? = some y → x.l ≤ y.l
theorem Rose.nil (line : Nat) : Rose line [] := ⟨fun x hx => by simp at hx, fun i x y hx => by simp at hx⟩
theorem Rose.wide {line line' : Nat} {acc : List TokR} (h : Rose line acc) (hl : line ≤ line') : Rose line' acc :=
  ⟨fun x hx => by have := h.1 x hx; exact ⟨this.1, this.2.1, by omega⟩, h.2⟩
theorem Rose.snoc {line : Nat} {acc : List TokR} (h : Rose line acc) {x : TokR} (hm : mayT x = true) (hx : x.l = line) (h1 : 1 ≤ line) : Rose line (acc ++ [x]) := by
  refine ⟨fun y hy => ?_, fun i a b ha hb => ?_⟩
  · rcases List.mem_append.1 hy with hy | hy
    · exact h.1 y hy
    · obtain rfl := List.mem_singleton.1 hy
      exact ⟨hm, by omega, by omega⟩
  · by_cases hi : i + 1 < acc.length
    · rw [List.getElem?_append_left (by omega)] at ha
      rw [List.getElem?_append_left (by omega)] at hb
      exact h.2 i a b ha hb
    · have hb' := (List.getElem?_eq_some_iff.1 hb).1
      rw [List.length_append, List.length_singleton] at hb'
      rw [List.getElem?_append_left (by omega)] at ha
      have e : acc.length = i + 1 := by omega
      rw [← e, List.getElem?_append_right (Nat.le_refl _), Nat.sub_self] at hb
      obtain rfl := Option.some.inj hb
      have := (h.1 a (List.mem_of_getElem? ha)).2.2
      rw [hx]; exact this
/-- What reading comes to. -/
def Rises (line n k : Nat) (acc : List TokR) : Rd → Prop
  | .ok m => Rose (line + k) m ∧ m.length ≤ acc.length + n
  | .no d e => (line ≤ d ∧ d ≤ line + k) ∧ (e = 20 ∨ (e = 3 ∧ 8192 < acc.length + n))
theorem Rises.wide {line line' n n' k k' : Nat} {acc acc' : List TokR} {r : Rd} (h : Rises line n k acc r) (h1 : line' ≤ line) (h2 : line + k ≤ line' + k') (h3 : acc.length + n ≤ acc'.length + n') : Rises line' n' k' acc' r := by
  cases r with
  | ok m => exact ⟨h.1.wide h2, by have := h.2; omega⟩
  | no d e => exact ⟨by have := h.1; omega, h.2.imp id fun h => ⟨h.1, by have := h.2; omega⟩⟩
theorem feeds_cons_le (c : UInt8) (r : List UInt8) : feeds r ≤ feeds (c :: r) := by unfold feeds; rw [List.count_cons]; omega
theorem lexF_rises : ∀ (f : Nat) (l : List UInt8) (line : Nat) (acc : List TokR), 1 ≤ line → acc.length ≤ 8192 → Rose line acc → Rises line l.length (feeds l) acc (lexF f l line acc)
  | 0, l, line, acc, _, _, h => ⟨h.wide (by omega), by omega⟩
  | _ + 1, [], line, acc, _, _, h => ⟨h.wide (by omega), by omega⟩
  | f + 1, c :: r, line, acc, h1, h8, h => by
    have hfc := feeds_cons_le c r
    rw [List.length_cons]
    unfold lexF
    split
    · rename_i h10
      have e : feeds (c :: r) = feeds r + 1 := by rw [h10]; simp [feeds]
      exact (lexF_rises f r (line + 1) acc (by omega) h8 (h.wide (by omega))).wide (by omega) (by omega) (by omega)
    · rename_i h10
      split
      · exact (lexF_rises f r line acc h1 h8 h).wide (by omega) (by omega) (by omega)
      · split
        · split
          · have hd := dropWhile_le inLine (c :: r)
            rw [List.length_cons] at hd
            exact (lexF_rises f _ line acc h1 h8 h).wide (by omega) (by rw [feeds_dropWhile]; omega) (by omega)
          · exact ⟨⟨by omega, by omega⟩, Or.inl rfl⟩
        · split
          · rename_i hg
            split
            · exact ⟨⟨by omega, by omega⟩, Or.inr ⟨rfl, by omega⟩⟩
            · have hp := pieceN_pos (c :: r)
              have hd : ((c :: r).drop (pieceN (c :: r))).length ≤ r.length := by rw [List.length_drop, List.length_cons]; omega
              have hfd := feeds_drop_piece (c :: r) c r rfl h10
              exact (lexF_rises f _ line (acc ++ [tokAt ((c :: r).take (pieceN (c :: r))) line]) h1 (by rw [List.length_append, List.length_singleton]; omega) (h.snoc (may_good hg _) rfl h1)).wide (by omega) (by omega) (by rw [List.length_append, List.length_singleton]; omega)
          · exact ⟨⟨by omega, by omega⟩, Or.inl rfl⟩
theorem read_rises {l : List UInt8} (h : l.length ≤ 3000) : Rises 1 l.length (feeds l) [] (readL l) := by
  rw [small_read (by omega)]
  exact lexF_rises _ _ _ _ (Nat.le_refl _) (by simp) (Rose.nil 1)

theorem take_snocM {xs : List TokR} {k : Nat} {x : TokR} (h : xs[k]? = some x) : xs.take (k + 1) = xs.take k ++ [x] := by
  rw [List.take_add_one, h]; rfl
/-- The lines of tokens: line j has those whose line it is. -/
def lineToks (xs : List TokR) (j : Nat) : List TokR := xs.filter (fun x => decide (x.l = (j : Int)))
theorem lineToks_snoc_same {xs : List TokR} {k : Nat} {x : TokR} (h : xs[k]? = some x) {j : Nat} (hj : x.l = (j : Int)) : lineToks (xs.take (k + 1)) j = lineToks (xs.take k) j ++ [x] := by
  unfold lineToks
  rw [take_snocM h, List.filter_append]; simp [hj]
theorem lineToks_snoc_other {xs : List TokR} {k : Nat} {x : TokR} (h : xs[k]? = some x) {j : Nat} (hj : ¬ x.l = (j : Int)) : lineToks (xs.take (k + 1)) j = lineToks (xs.take k) j := by
  unfold lineToks
  rw [take_snocM h, List.filter_append]; simp [hj]
theorem lineToks_map (xs : List TokR) (j : Nat) : (lineToks xs j).map (fun x => { x with l := (j : Int) }) = lineToks xs j := by
  rw [List.map_congr_left (g := id)]
  · exact List.map_id _
  · intro x hx
    have := of_decide_eq_true (List.mem_filter.1 hx).2
    show ({ x with l := (j : Int) } : TokR) = x
    rw [← this]

/-- Lines that hold the tokens of a list, each at its line. -/
def Held (xs : List TokR) (zs : List LineR) : Prop := ∀ (j : Nat) (z : LineR), zs[j]? = some z → z.xs = lineToks xs (j + 1)
/-- Tokens whose lines rise from a line on: first those at this line, then the others. -/
theorem split_line : ∀ (xs : List TokR) (j : Nat), (∀ x ∈ xs, (j : Int) ≤ x.l) → (∀ (i : Nat) (x y : TokR), xs[i]? = some x → xs[i + 1]? = some y → x.l ≤ y.l) → xs = lineToks xs j ++ xs.filter (fun x => decide ((j : Int) < x.l))
  | [], _, _, _ => rfl
  | x :: xs, j, h1, h2 => by
    have ih := split_line xs j (fun y hy => h1 y (by simp [hy])) (fun i a b ha hb => h2 (i + 1) a b (by simpa using ha) (by simpa using hb))
    have hx := h1 x (by simp)
    by_cases he : x.l = (j : Int)
    · unfold lineToks at ih ⊢
      rw [List.filter_cons, if_pos (by simp [he]), List.filter_cons, if_neg (by simp [he]), List.cons_append, ← ih]
    · have hall : ∀ (m : Nat) (y : TokR), xs[m]? = some y → (j : Int) < y.l := by
        intro m
        induction m with
        | zero =>
          intro y hy
          have := h2 0 x y (by simp) (by simpa using hy)
          omega
        | succ m ihm =>
          intro y hy
          have hm : m < xs.length := by have := (List.getElem?_eq_some_iff.1 hy).1; omega
          have h3 := ihm _ (List.getElem?_eq_getElem hm)
          have := h2 (m + 1) _ y (by rw [List.getElem?_cons_succ]; exact List.getElem?_eq_getElem hm) (by simpa using hy)
          omega
      have hn : lineToks (x :: xs) j = [] := by
        unfold lineToks
        rw [List.filter_eq_nil_iff]
        intro y hy
        rcases List.mem_cons.1 hy with rfl | hy
        · simp [he]
        · obtain ⟨m, hm⟩ := List.mem_iff_getElem?.1 hy
          have := hall m y hm
          simp; omega
      have hf : (x :: xs).filter (fun x => decide ((j : Int) < x.l)) = x :: xs := by
        rw [List.filter_eq_self]
        intro y hy
        rcases List.mem_cons.1 hy with rfl | hy
        · simp; omega
        · obtain ⟨m, hm⟩ := List.mem_iff_getElem?.1 hy
          have := hall m y hm
          simp; omega
      rw [hn, hf]; rfl
theorem filter_rise {xs : List TokR} (h2 : ∀ (i : Nat) (x y : TokR), xs[i]? = some x → xs[i + 1]? = some y → x.l ≤ y.l) (j : Nat) (h1 : ∀ x ∈ xs, (j : Int) ≤ x.l) :
    ∀ (i : Nat) (x y : TokR), (xs.filter (fun x => decide ((j : Int) < x.l)))[i]? = some x → (xs.filter (fun x => decide ((j : Int) < x.l)))[i + 1]? = some y → x.l ≤ y.l := by
  have key : ∀ (a b : List TokR), xs = a ++ b → ∀ (i : Nat) (x y : TokR), b[i]? = some x → b[i + 1]? = some y → x.l ≤ y.l := by
    intro a b e i x y hx hy
    exact h2 (a.length + i) x y (by rw [e, List.getElem?_append_right (by omega), Nat.add_sub_cancel_left]; exact hx) (by rw [e, List.getElem?_append_right (by omega), show a.length + i + 1 - a.length = i + 1 by omega]; exact hy)
  exact key _ _ (split_line xs j h1 h2)
theorem lineToks_filter (xs : List TokR) (j k : Nat) (h : j < k) : lineToks (xs.filter (fun x => decide ((j : Int) < x.l))) k = lineToks xs k := by
  unfold lineToks
  rw [List.filter_filter]
  congr 1
  funext x
  by_cases hx : x.l = (k : Int)
  · simp [hx]; omega
  · simp [hx]
theorem held_toks : ∀ (zs : List LineR) (line : Nat) (xs : List TokR), (∀ x ∈ xs, (line : Int) ≤ x.l ∧ x.l < line + zs.length) → (∀ (i : Nat) (x y : TokR), xs[i]? = some x → xs[i + 1]? = some y → x.l ≤ y.l) →
    (∀ (j : Nat) (z : LineR), zs[j]? = some z → z.xs = lineToks xs (line + j)) → toksOf zs line = xs
  | [], line, xs, h1, _, _ => by
    cases xs with
    | nil => rfl
    | cons x xs =>
      have := h1 x (by simp)
      rw [List.length_nil] at this
      omega
  | z :: zs, line, xs, h1, h2, h3 => by
    have hz := h3 0 z (by simp)
    rw [Nat.add_zero] at hz
    have hs := split_line xs line (fun x hx => (h1 x hx).1) h2
    have ih := held_toks zs (line + 1) (xs.filter (fun x => decide ((line : Int) < x.l)))
      (fun x hx => by
        obtain ⟨ha, hb⟩ := List.mem_filter.1 hx
        have := h1 x ha
        have := of_decide_eq_true hb
        rw [List.length_cons] at *
        omega)
      (filter_rise h2 line (fun x hx => (h1 x hx).1))
      (fun j z' hj => by
        rw [lineToks_filter xs line (line + 1 + j) (by omega)]
        have := h3 (j + 1) z' (by simpa using hj)
        rw [this]; congr 1; omega)
    rw [toksOf, hz, lineToks_map, ih]
    exact hs.symm

theorem lex_lines_of2 : ∀ (zs : List LineR) (line : Nat) (acc : List TokR), (∀ z ∈ zs, z.fit) → acc.length + (toksOf zs line).length ≤ 8192 → lexL (linesT zs) line acc = .ok (acc ++ toksOf zs line)
  | [], line, acc, _, _ => by rw [linesT, lexL_nil, toksOf, List.append_nil]
  | z :: zs, line, acc, h, ha => by
    have hz := h z (by simp)
    rw [toksOf, List.length_append, List.length_map] at ha
    rw [linesT, lex_mid _ z.text (linesT zs) line acc (Nat.le_refl _), lex_text hz line acc (by omega), feeds_text hz]
    show lexL (linesT zs) (line + 0 + 1) _ = _
    rw [Nat.add_zero, lex_lines_of2 zs (line + 1) _ (fun y hy => h y (by simp [hy])) (by rw [List.length_append, List.length_map]; omega), toksOf, List.append_assoc]
/-- **TOKENS WRITTEN LINE BY LINE ARE READ BACK.** -/
theorem read_again {xs : List TokR} {zs : List LineR} (hv : zs.all LineR.valid = true) (hs : zs.all LineR.short = true) (hl : (linesT zs).length ≤ 65536) (ht : toksOf zs 1 = xs) (hx : xs.length ≤ 8192) : readL (linesT zs) = .ok xs := by
  have hfit : ∀ z ∈ zs, z.fit := fun z hz => by
    have h1 := List.all_eq_true.1 hv z hz
    have h2 := List.all_eq_true.1 hs z hz
    unfold LineR.valid at h1
    unfold LineR.short at h2
    rw [Bool.and_eq_true] at h1
    exact ⟨List.all_eq_true.1 h1.2, of_decide_eq_true h2⟩
  rw [small_read hl, lex_lines_of2 zs 1 [] hfit (by rw [ht, List.length_nil]; omega), ht, List.nil_append]

end Go.Proofs.YtalbcgbfefgjfaaDoor
