
/-
  THE ITERATOR OVER THE TOKENS OF A LINE: lex.tokens, the function that it hands back.
-/
import Derived.Test.YtalbcgbfefgjfaaDoorLexQ
import Derived.Test.YtalbcgbfefgjfaaDoorShelf
import Derived.RangeFuncNested
import Derived.RangeFuncBound
import Derived.RangeFuncCalls
import Derived.RangeFuncLeaves
import Derived.Shelf.Abstract
import Derived.Shelf.RegionOpen
import Derived.OwnWalkIn
import Derived.TacticsInMore
import Derived.LoopNIn
import Derived.LoopIn
namespace Go.Proofs.YtalbcgbfefgjfaaDoor
open Go Go.RowKit Go.Shelf
attribute [local go_sem] Oper.semAt_some

/-- What the rounds keep: the iterator over the string, and the variable 'line'. -/
def KeepsBox (b : Nat) (W W' : World) : Prop := KeepsWalks W W' ∧ W'.cell? ⟨b, 0, none⟩ = W.cell? ⟨b, 0, none⟩
def encI (x : Item) : Array Value := #[.agg #[.int .u8 x.1.k, .int .i64 x.1.l, .string x.1.t, .int .i64 x.1.n], .bool x.2]

theorem abides_below {β : Type} {B : Nat} {J : β → World → Prop} (h : AbidesFrom B J) {s : β} {A C : World} (hj : J s A) (hb : Below A.heap.size A C) : J s C :=
  h s A C none hj ⟨hb.os, hb.tape, hb.output, hb.size, fun k hk _ => hb.block k hk⟩ (fun _ e => by cases e)
theorem abides_turn {β : Type} {B I : Nat} {J : β → World → Prop} (h : AbidesFrom B J) {x : β} {A : World} (hj : J x A) {s : ByteArray} {pos : Nat} (hI : A.heap[I]? = some (.stringIter s pos)) (hB : B ≤ I) (p : Nat) : J x (A.iterAt I s p) := by
  refine h x A _ (some I) hj ⟨rfl, rfl, rfl, by simp [World.iterAt], fun k _ hne => ?_⟩ (fun r e => by cases e; exact ⟨hB, _, hI, rfl⟩)
  simp only [World.iterAt, Array.getElem?_setIfInBounds]
  rw [if_neg (fun e => hne (by rw [e]))]

theorem tokens_any (s : ByteArray) (w : World) : Calls Tryd.prog 52 #[.string s] w fun e w' => e = .returned (.func (.func 72) #[] #[.pointer (some ⟨w.heap.size, 0, none⟩)]) ∧ w' = w.alloc (.cells #[.string s] 9) := by
  go_enter Tryd.func52, Tryd.ntmps52
  go_wp2
  go_returns
  exact ⟨rfl, rfl⟩



set_option maxRecDepth 100000 in
set_option maxHeartbeats 2000000 in
/-- **The iterator: for every loop body that keeps the iterator over the string, and the variable 'line'.** -/
theorem tokens1_in (n : Nat) (l b : Nat) (s : ByteArray) (J Jx : List Item → World → Prop) (W : World) (hs : s.size ≤ 4611686018427387904)
    (hJ : AbidesFrom W.heap.size J)
    (hY : ∀ pre x W1, J pre W1 → pre.length < s.size → YieldAt Fence.wide (n - 1) Tryd.prog l (encI x) W1 fun e W' =>
      (e = .returned (.bool true) ∧ J (pre ++ [x]) W' ∧ KeepsBox b W1 W') ∨ (e = .returned (.bool false) ∧ Jx (pre ++ [x]) W'))
    (hb : W.cell? ⟨b, 0, none⟩ = some (.string s)) (h0 : J [] W) :
    CallsIn Fence.wide n Tryd.prog 72 #[.func (.yield l) #[] #[], .pointer (some ⟨b, 0, none⟩)] W fun e W' => (∃ v, e = .returned v) ∧
      ((∃ xs, SAll s xs ∧ J xs W') ∨ (∃ pre, SPart s pre ∧ Jx pre W')) := by
  refine callsIn_of_wp Tryd.func72 rfl trivial ?_ rfl
  simp only [Tryd.ntmps72, List.size_toArray, List.length_cons, List.length_nil, Nat.reduceAdd, Nat.reduceSub, Array.replicate_succ, Array.replicate_zero, List.push_toArray, List.append_toArray, List.nil_append, List.cons_append]
  have HJ := Lib.hid hJ
  have HY := Lib.hid hY
  clear hJ hY
  gi_wp2
  have hi0 : (W.alloc (.stringIter s 0)).heap[W.heap.size]? = some (.stringIter s 0) := World.alloc_heap_new W _
  have hb0 : Below W.heap.size W (W.alloc (.stringIter s 0)) := (Below.refl _ W).alloc (Nat.le_refl _) _
  have hJ0 : J [] (W.alloc (.stringIter s 0)) := abides_below HJ.out h0 hb0
  have hc0 : (W.alloc (.stringIter s 0)).cell? ⟨b, 0, none⟩ = some (.string s) := keepA hb0 hb
  gi_loopw [3] (fun e wr => ∃ (pos ed : Nat) (pre : List Item), e = .int .i64 ed ∧ ed ≤ s.size ∧ wr.heap[W.heap.size]? = some (.stringIter s pos) ∧ wr.cell? ⟨b, 0, none⟩ = some (.string s) ∧ J pre wr ∧ InRun s pos ed pre)
    (fun _ wr => s.size - wr.iterPos W.heap.size)
  case atStart => exact ⟨0, 0, [], rfl, Nat.zero_le _, hi0, hc0, hJ0, InRun.start s⟩
  case round =>
    obtain ⟨pos, ed, pre, rfl, hed, hit, hc, hj, hr⟩ := hrel
    clear hi0 hb0 hJ0 hc0 hb h0
    have hI : W.heap.size < wr.heap.size := (Array.getElem?_eq_some_iff.1 hit).1
    by_cases hp : pos < s.size
    · obtain ⟨c, k, hd1, hd2, hck⟩ := rune_at s pos hp
      have h1k : 1 ≤ k := by
        by_cases ha : (s[pos]'hp).toNat < 128
        · rw [decode_ascii s pos hp ha] at hd2; simp at hd2; omega
        · have := (decode_high s pos hp (by omega)).2; omega
      have hk1 : (s.toList.getD pos 0).toNat < 128 → k = 1 := fun h => by (rcases hck with h' | h'; (exact h'.2.1); (exact absurd h (by omega)))
      have hc32 : s.toList.getD pos 0 = 32 ↔ c = 32 := by
        rcases hck with ⟨h', _, _⟩ | ⟨h', h''⟩
        · rw [h']
          constructor
          · intro e; rw [e]; rfl
          · intro e
            have : (s.toList.getD pos 0).toNat = 32 := by omega
            exact UInt8.toNat_inj.1 this
        · constructor
          · intro e; rw [e] at h''; exact absurd h'' (by decide)
          · intro e; omega
      have hnx : ∀ ty, (Instr.next (.pointer (some ⟨W.heap.size, 0, none⟩)) true ty).run Tryd.prog wr = .ok (.tuple #[.bool true, .int .i64 pos, .int .i32 c]) (wr.iterAt W.heap.size s (pos + k)) := fun ty => by rw [Lib.run_next_any_at wr W.heap.size s pos ty hit hp, hd1, hd2]
      have hit2 := Lib.iterAt_heap wr W.heap.size s pos (pos + k) hit
      have hj2 : J pre (wr.iterAt W.heap.size s (pos + k)) := abides_turn HJ.out hj hit (Nat.le_refl _) _
      have hc2 : (wr.iterAt W.heap.size s (pos + k)).cell? ⟨b, 0, none⟩ = some (.string s) := by
        have hne : b ≠ W.heap.size := fun e => by subst e; simp [World.cell?, hit] at hc
        rw [← hc]
        exact World.cell?_of_block (by simp only [World.iterAt, Array.getElem?_setIfInBounds]; rw [if_neg (fun e => hne e.symm)])
      have hm2 : s.size - (wr.iterAt W.heap.size s (pos + k)).iterPos W.heap.size < s.size - wr.iterPos W.heap.size := by simp only [World.iterPos, hit2, hit]; omega
      obtain ⟨w2, hw2⟩ : ∃ w2, wr.iterAt W.heap.size s (pos + k) = w2 := ⟨_, rfl⟩
      rw [hw2] at hit2 hj2 hc2 hm2
      have hnx2 : ∀ ty, (Instr.next (.pointer (some ⟨W.heap.size, 0, none⟩)) true ty).run Tryd.prog wr = .ok (.tuple #[.bool true, .int .i64 pos, .int .i32 c]) w2 := fun ty => by rw [← hw2]; exact hnx ty
      have HR := Lib.hid hr
      have HM := Lib.hid hm2
      have HI := Lib.hid hit2
      have HC := Lib.hid hc2
      have HJ2 := Lib.hid hj2
      have HK1 := Lib.hid hk1
      have HC32 := Lib.hid hc32
      clear hnx hw2 hr hm2 hit2 hj2 hk1 hc32 hck hd1 hd2 hit hj hc
      by_cases hlt : pos < ed
      · gi_wp2
        go_roundw
        case rel => exact ⟨pos + k, ed, pre, rfl, hed, HI.out, HC.out, HJ2.out, HR.out.skip hlt h1k HK1.out⟩
        case measure => exact HM.out
      · have hle : ed ≤ pos := by omega
        by_cases h32 : c = 32
        · subst h32
          have e32 := HC32.out.2 rfl
          obtain rfl : k = 1 := HK1.out (by rw [e32]; decide)
          have HE := Lib.hid e32
          clear e32
          gi_wp2
          go_roundw
          case rel => exact ⟨pos + 1, ed, pre, rfl, hed, HI.out, HC.out, HJ2.out, HR.out.space hle hp HE.out⟩
          case measure => exact HM.out
        · have hcb : (c == 32) = false := beq_eq_false_iff_ne.2 h32
          have hc2 := HC.out
          have HN := Lib.hid (fun e => h32 (HC32.out.1 e) : ¬ s.toList.getD pos 0 = 32)
          have HL := Lib.hid (rest_list s pos)
          have hrs : (s.extract pos s.size).size ≤ 9223372036854775807 := by rw [← length_toList, HL.out, List.length_drop, length_toList]; omega
          have hpf := prefix_note s pos
          have h1r : 1 ≤ (s.extract pos s.size).size := by rw [← length_toList, HL.out, List.length_drop, length_toList]; omega
          by_cases h2 : (s.toList.drop pos).take 2 = [45, 45]
          · rw [decide_eq_true h2] at hpf
            have HP := Lib.hid hpf
            have H2 := Lib.hid h2
            clear hpf h2 h32
            cases hq : (s.toList.drop pos).all printU
            · have HQ := Lib.hid hq
              clear hq
              gi_wp2_with (first
                | (refine ⟨trivial, (fun h => nomatch h), ?_⟩; gi_at_call 68; refine (callsIn_wide.2 (Tryd.strings_HasPrefix _ _ _)).mono ?_; rintro e w3 ⟨rfl, rfl⟩; rw [HP.out])
                | (refine ⟨trivial, (fun h => nomatch h), ?_⟩; gi_at_call 73; refine (callsIn_wide.2 (printable_any _ _ hrs)).mono ?_; rw [HL.out, HQ.out]; rintro e w3 ⟨rfl, hb3⟩; obtain ⟨fn, tmps, assign, body, hy, hR⟩ := HY.out pre (noTok, false) w3 (abides_below HJ.out HJ2.out hb3) (by have := HR.out.1; omega); have HY3 := Lib.hid hR; simp only [encI, noTok] at hy; clear hR hb3))
              refine ⟨(fun h => nomatch h), ?_⟩
              refine HY3.out.mono ?_
              rintro e W3 (⟨rfl, hJ3, hk3⟩ | ⟨rfl, hJx3⟩)
              · have HJ3 := Lib.hid hJ3
                clear hJ3 hk3
                gi_wp2
                refine bodyPost_ret (results_none rfl _ _ _) rfl ?_
                exact ⟨⟨_, rfl⟩, .inl ⟨_, Or.inl (by simp), HJ3.out⟩⟩
              · have HJ3 := Lib.hid hJx3
                clear hJx3
                gi_wp2
                refine bodyPost_ret (results_none rfl _ _ _) rfl ?_
                exact ⟨⟨_, rfl⟩, .inr ⟨_, HR.out.bad hle H2.out HQ.out, HJ3.out⟩⟩
            · have HQ := Lib.hid hq
              clear hq
              gi_wp2_with (first
                | (refine ⟨trivial, (fun h => nomatch h), ?_⟩; gi_at_call 68; refine (callsIn_wide.2 (Tryd.strings_HasPrefix _ _ _)).mono ?_; rintro e w3 ⟨rfl, rfl⟩; rw [HP.out])
                | (refine ⟨trivial, (fun h => nomatch h), ?_⟩; gi_at_call 73; refine (callsIn_wide.2 (printable_any _ _ hrs)).mono ?_; rw [HL.out, HQ.out]; rintro e w3 ⟨rfl, hb3⟩; have HB3 := Lib.hid hb3; clear hb3))
              refine bodyPost_ret (results_none rfl _ _ _) rfl ?_
              exact ⟨⟨_, rfl⟩, .inl ⟨pre, HR.out.note hle H2.out HQ.out, abides_below HJ.out HJ2.out HB3.out⟩⟩
          · rw [decide_eq_false h2] at hpf
            have HP := Lib.hid hpf
            have H2 := Lib.hid h2
            clear hpf h2 h32
            gi_wp2_with (first
              | (refine ⟨trivial, (fun h => nomatch h), ?_⟩; gi_at_call 68; refine (callsIn_wide.2 (Tryd.strings_HasPrefix _ _ _)).mono ?_; rintro e w3 ⟨rfl, rfl⟩; rw [HP.out])
              | (refine ⟨trivial, (fun h => nomatch h), ?_⟩; gi_at_call 74; refine (callsIn_wide.2 (piece_any _ _ hrs h1r)).mono ?_; rintro e w3 ⟨q, rfl, hq, hb3⟩; have HB3 := Lib.hid hb3; rw [HL.out] at hq; have HQ := Lib.hid hq; clear hb3 hq; have hqs : q.size ≤ 9223372036854775807 := piece_size hrs HL.out HQ.out)
              | (refine ⟨trivial, (fun h => nomatch h), ?_⟩; gi_at_call 75; refine (callsIn_wide.2 (token_any _ _ hqs)).mono ?_; rintro e w4 ⟨rfl, hb4⟩; have HB4 := Lib.hid (HB3.out.trans (hb4.mono HB3.out.size)); clear hb4; unfold tokV; obtain ⟨fn, tmps, assign, body, hy, hR⟩ := HY.out pre (⟨tokK q, 0, tokT q, tokN q⟩, tokB q) (w4.alloc (.cells #[.int .u8 (tokK q), .int .i64 0, .string (tokT q), .int .i64 (tokN q)] 27)) (abides_below HJ.out HJ2.out (HB4.out.alloc HB4.out.size _)) (by have := HR.out.1; omega); have HY3 := Lib.hid hR; simp only [encI] at hy; clear hR))
            refine ⟨(fun h => nomatch h), ?_⟩
            refine HY3.out.mono ?_
            have hx : ((⟨tokK q, 0, tokT q, tokN q⟩, tokB q) : Item) = itemOf ((s.toList.drop pos).take (pieceN (s.toList.drop pos))) := by
              rw [← HQ.out]
              simp only [itemOf, tokAt, goodB, str_of]
            rw [hx]
            have HX := Lib.hid hx
            clear hx
            rintro e W3 (⟨rfl, hJ3, hk3⟩ | ⟨rfl, hJx3⟩)
            · have HJ3 := Lib.hid hJ3
              have hb5 := HB4.out.alloc HB4.out.size (.cells #[.int .u8 (tokK q), .int .i64 0, .string (tokT q), .int .i64 (tokN q)] 27)
              have hit3 := (hb5.block W.heap.size (Array.getElem?_eq_some_iff.1 HI.out).1).trans HI.out
              have hit4 := Lib.hid (hk3.1.same _ _ hit3 rfl)
              have hc4 := Lib.hid (hk3.2.trans (keepA hb5 HC.out))
              have hqz : q.size = pieceN (s.toList.drop pos) := by
                rw [← length_toList, HQ.out, List.length_take]
                have := pieceN_le (s.toList.drop pos) (by rw [drop_at _ _ (by rw [length_toList]; exact hp)]; simp)
                omega
              have hqs2 : pos + q.size ≤ s.size := by
                rw [hqz]
                have := pieceN_le (s.toList.drop pos) (by rw [drop_at _ _ (by rw [length_toList]; exact hp)]; simp)
                rw [List.length_drop, length_toList] at this
                omega
              have HZ := Lib.hid hqz
              clear hJ3 hk3 hqz hit3 hb5 hc2 hnx2 hy
              gi_wp2
              go_roundw
              case rel => exact ⟨pos + k, pos + q.size, _, by go_num, hqs2, hit4.out, hc4.out, HJ3.out, by rw [HZ.out]; exact HR.out.next hle hp HN.out H2.out h1k HK1.out⟩
              case measure =>
                have hm := HM.out
                simp only [World.iterPos, HI.out] at hm
                simp only [World.iterPos, hit4.out]
                exact hm
            · have HJ3 := Lib.hid hJx3
              clear hJx3
              gi_wp2
              refine bodyPost_ret (results_none rfl _ _ _) rfl ?_
              exact ⟨⟨_, rfl⟩, .inr ⟨_, HR.out.part hle hp HN.out H2.out, HJ3.out⟩⟩

    · have hnx : ∀ ty, (Instr.next (.pointer (some ⟨W.heap.size, 0, none⟩)) true ty).run Tryd.prog wr = .ok (.tuple #[.bool false]) wr := fun ty => Lib.run_next_end_at wr W.heap.size s pos ty hit hp
      have HR := Lib.hid hr
      have HJ2 := Lib.hid hj
      clear hr hj hc hit
      gi_wp2
      go_end0
      exact ⟨⟨_, rfl⟩, .inl ⟨pre, HR.out.done (by omega), HJ2.out⟩⟩

end Go.Proofs.YtalbcgbfefgjfaaDoor
