
/-
  THE LAW LexComments: its walk.
-/
import Derived.Test.YtfcinienehpkjaaDoorLexCl
import Derived.Test.YtfcinienehpkjaaDoorLexCj
import Derived.Test.YtfcinienehpkjaaDoorLexAk
import Derived.Test.YtfcinienehpkjaaDoorLexOp
import Derived.RegionTactic
namespace Go.Proofs.YtfcinienehpkjaaDoor
open Go Go.RowKit

/-- Bytes that a slice holds. -/
def BytesIn (w : World) (p : Option Addr) (n : Nat) : Prop := ∃ bs : List Int, bs.length = n ∧ ∀ (i : Nat) x, bs[i]? = some x → (0 ≤ x ∧ x ≤ 255) ∧ ∃ a, p = some a ∧ w.cell? (a.add i) = some (.int .u8 x)

theorem clone_any (p : Option Addr) (n c : Nat) (bs : List Int) (w : World) (hl : bs.length = n) (hn : n ≤ 100) (hc : ∀ (i : Nat) x, bs[i]? = some x → ∃ a, p = some a ∧ w.cell? (a.add i) = some (.int .u8 x)) :
    Calls Tryd.prog 33 #[.slice p n c] w fun e w' => ∃ q cap, e = .returned (.slice q n cap) ∧ OwnB w.heap.size w' q n bs ∧ Below w.heap.size w w' := by
  cases p with
  | none =>
    have h0 : n = 0 := by
      cases bs with
      | nil => exact hl.symm
      | cons x r => obtain ⟨a, h, _⟩ := hc 0 x rfl; cases h
    subst h0
    exact (clone_none 0 c w).mono fun e w' ⟨he, hb⟩ => ⟨none, 0, he, ⟨hl, Or.inl ⟨rfl, rfl⟩⟩, hb⟩
  | some ad => exact clone_some ad n c bs w hl hn (fun j x hx => by obtain ⟨a, h, k⟩ := hc j x hx; cases h; exact k)

theorem OwnB.set {base : Nat} {w : World} {g n : Nat} {xs : List Int} (h : OwnB base w (some ⟨g, 0, none⟩) n xs) {k : Nat} (hk : k < n) (v : Int) : OwnB base (w.setCell ⟨g, k, none⟩ (.int .u8 v)) (some ⟨g, 0, none⟩) n (xs.set k v) := by
  refine ⟨by rw [List.length_set]; exact h.len, ?_⟩
  rcases h.own with ⟨he, _⟩ | ⟨g', he, hb, hc, hf⟩
  · cases he
  · cases he
    refine Or.inr ⟨g, rfl, hb, fun j hj => ?_, fun j hj => by rw [World.frozen?_setCell]; exact hf j hj⟩
    have hl := h.len
    by_cases e : j = k
    · subst e
      rw [World.cell?_setCell_same (h := hc j hj)]
      simp [List.getD, show j < xs.length by omega]
    · rw [World.cell?_setCell_other (h := (show (⟨g, k, none⟩ : Addr) ≠ ⟨g, j, none⟩ by intro he; injection he with _ h2; exact e h2.symm)), hc j hj]
      simp [List.getD, List.getElem?_set_ne (Ne.symm e)]

/-- The first k bytes made into printable ones. -/
def prs (bs : List Int) (k : Nat) : List Int := (bs.take k).map (fun x => 32 + x % 95) ++ bs.drop k
theorem prs_at {bs : List Int} {k : Nat} {x : Int} (h : bs[k]? = some x) : (prs bs k).getD k 0 = x ∧ (prs bs k).set k (32 + x % 95) = prs bs (k + 1) := by
  obtain ⟨hk, rfl⟩ := List.getElem?_eq_some_iff.1 h
  have e1 : bs.drop k = bs[k] :: bs.drop (k + 1) := List.drop_eq_getElem_cons hk
  have hlen : ((bs.take k).map (fun x : Int => 32 + x % 95)).length = k := by rw [List.length_map, List.length_take]; omega
  unfold prs
  rw [e1]
  constructor
  · rw [List.getD_eq_getElem?_getD, List.getElem?_append_right (by omega), hlen]; simp [List.getElem?_eq_getElem hk]
  · rw [List.set_append_right _ _ (by omega), hlen, Nat.sub_self, List.set_cons_zero, List.take_succ_eq_append_getElem hk, List.map_append]
    simp
/-- The comment's bytes. -/
def cbs (bs : List Int) : List UInt8 := (bs.map (fun x => 32 + x % 95)).map fun n => UInt8.ofNat n.toNat
theorem cbs_print (bs : List Int) : (cbs bs).all printU = true := by
  rw [List.all_eq_true]
  intro c hc
  unfold cbs at hc
  rw [List.map_map] at hc
  obtain ⟨x, _, rfl⟩ := List.mem_map.1 hc
  have h : (32 + x % 95).toNat < 256 := by omega
  show decide _ = true
  rw [decide_eq_true_eq]
  simp only [Function.comp]
  rw [UInt8.toNat_ofNat_of_lt' h]
  omega
theorem str_cbs (bs : List Int) {n : Nat} (h : bs.length = n) : (strOfNums (prs bs n)).toList = cbs bs := by
  rw [ByteArray.toList_eq, strOfNums_data]
  unfold prs cbs
  rw [← h, List.take_length, List.drop_length, List.append_nil]

theorem OwnB.below {base : Nat} {w W : World} {q : Option Addr} {n : Nat} {xs : List Int} (h : OwnB base w q n xs) (hb : Below w.heap.size w W) : OwnB base W q n xs := by
  refine ⟨h.len, ?_⟩
  rcases h.own with h0 | ⟨g, rfl, hg, hc, hf⟩
  · exact Or.inl h0
  · exact Or.inr ⟨g, rfl, hg, fun j hj => keepA' hb (hc j hj), fun j hj => by rw [World.frozen?_of_block (hb.block g (World.block_lt_of_cell? _ _ (hc j hj)))]; exact hf j hj⟩

theorem note_mark : (⟨#[32, 45, 45]⟩ : ByteArray).toList = [32, 45, 45] := str_toList [32, 45, 45]
theorem join_any (bk N : Nat) (ks : List ByteArray) (w : World) (hl : ks.length = N + 1) (hN : N ≤ 2000) (hc : ∀ (j : Nat) x, ks[j]? = some x → w.cell? ⟨bk, j, none⟩ = some (.string x)) (hJ : (Lib.join (ks.map (·.data.toList)) [10]).length ≤ 3000) :
    Calls Tryd.prog 35 #[.slice (some ⟨bk, 0, none⟩) (N + 1) (N + 1), .string ⟨#[10]⟩] w (GivesStr w (Lib.join (ks.map (·.data.toList)) [10])) := by
  have hbk : bk < w.heap.size := by
    obtain ⟨x, hx⟩ := list_at (xs := ks) (k := 0) (by omega)
    exact World.block_lt_of_cell? _ _ (hc 0 x hx)
  have h := Tryd.strings_Join bk 0 (N + 1) ks ⟨#[10]⟩ w (fun j x hx => by rw [Nat.zero_add]; exact hc j x hx) hbk (by omega) (by omega) (Nat.le_trans hJ (by omega))
  rw [hl] at h
  exact h.mono fun e w' ⟨he, hb⟩ => ⟨_, he, str_toList _, hb⟩

set_option maxRecDepth 100000 in
set_option maxHeartbeats 4000000 in
theorem law_lexComments (s : ByteArray) (at_ : Int) (p : Option Addr) (n c : Nat) (w : World) (L : LibOk w) (_ : s.size ≤ 9223372036854775807) (hat : 0 ≤ at_ ∧ at_ ≤ 65535) (hb : BytesIn w p n) :
    Calls Tryd.prog 10 #[.string s, .int .u16 at_, .slice p n c] w (Gives w (.bool true)) := by
  obtain ⟨bs, hbl, hbs⟩ := hb
  have HL := Lib.hid L
  have HBL := Lib.hid hbl
  have HBS := Lib.hid hbs
  clear L hbl hbs
  by_cases h1 : 2000 < s.size
  · go_enter Tryd.func10, Tryd.ntmps10
    go_wp2_with (first
      | (go_at_call 19; refine (awake_any _ HL.out).mono ?_; rintro e w1 ⟨rfl, hb⟩; have HB := Lib.hid hb; clear hb))
    go_returns
    exact ⟨rfl, HB.out⟩
  · by_cases h2 : 100 < n
    · go_enter Tryd.func10, Tryd.ntmps10
      go_wp2_with (first
        | (go_at_call 19; refine (awake_any _ HL.out).mono ?_; rintro e w1 ⟨rfl, hb⟩; have HB := Lib.hid hb; clear hb))
      go_returns
      exact ⟨rfl, HB.out⟩
    · have hs2 : s.size ≤ 2000 := by omega
      have hn1 : n ≤ 100 := by omega
      clear h1 h2
      go_enter Tryd.func10, Tryd.ntmps10
      go_wp2_with (first
        | (go_at_call 33; refine (clone_any _ _ _ bs _ HBL.out hn1 (fun i x hx => (HBS.out i x hx).2)).mono ?_; rintro e w1 ⟨q, cap, rfl, hown, hb⟩; have HO := Lib.hid hown; have HB1 := Lib.hid hb; clear hown hb))
      go_loopw [29] (fun i wr => ∃ k : Nat, k ≤ n ∧ i = .int .i64 k ∧ OwnB w.heap.size wr q n (prs bs k) ∧ Below w.heap.size w wr) (fun i _ => n - (intOf i).toNat)
      case atStart => exact ⟨0, Nat.zero_le _, rfl, HO.out, HB1.out⟩
      case round =>
        obtain ⟨k, hk, rfl, hown, hbel⟩ := hrel
        have HO2 := Lib.hid hown
        have HW := Lib.hid hbel
        by_cases hlt : k < n
        · obtain ⟨x, hx⟩ := list_at (xs := bs) (k := k) (by rw [HBL.out]; exact hlt)
          obtain ⟨⟨hx0, hx1⟩, _⟩ := HBS.out k x hx
          rcases hown.own with ⟨_, h0⟩ | ⟨g, rfl, hg, hcell, hfr⟩
          · omega
          · have c0 := hcell k hlt
            rw [(prs_at hx).1] at c0
            have f0 := hfr k hlt
            have hset := hown.set hlt (32 + x % 95)
            rw [(prs_at hx).2] at hset
            have HSET := Lib.hid hset
            have HB5 := Lib.hid (hbel.setCell (p := ⟨g, k, none⟩) hg (.int .u8 (32 + x % 95)))
            have hblx := World.block_lt_of_cell? _ _ c0
            clear hown hbel hcell hfr hset hx
            go_wp2
            go_roundw
            case rel => exact ⟨k + 1, by omega, by go_num, HSET.out, HB5.out⟩
            case measure => simp [intOf]; omega
        · obtain rfl : n = k := by omega
          obtain ⟨m, hm⟩ := (HL.out.below hbel).len
          have hsl := split_lines s
          have hsc := split_count s
          obtain ⟨ls, hls⟩ : ∃ ls, Lib.splitB ⟨#[10]⟩ 0 (Lib.countB s ⟨#[10]⟩) s = ls := ⟨_, rfl⟩
          obtain ⟨N, hN⟩ : ∃ N, Lib.countB s ⟨#[10]⟩ = N := ⟨_, rfl⟩
          rw [hls] at hsl
          rw [hN] at hsc hls
          have HN := Lib.hid hN
          have HLS := Lib.hid hls
          have HSL := Lib.hid hsl
          have hNs : N ≤ 2000 := by rw [hsc]; have := feeds_le s.toList; rw [length_toList] at this; omega
          have hlen : ls.length = N + 1 := by rw [hsc, ← linesL_length, ← hsl, List.length_map]
          have HLEN := Lib.hid hlen
          clear hN hls hsl hsc hlen hown hbel
          go_wp2_with (first
            | (go_at_call 34; refine (Tryd.strings_Split _ _ m _ (by omega) (by go_cell) (by decide)).mono ?_; rw [HN.out, HLS.out]; rintro _ _ ⟨rfl, rfl⟩))
          obtain ⟨kk, hkk⟩ : ∃ kk : Nat, at_ % ((N : Int) + 1) = kk := ⟨(at_ % ((N : Int) + 1)).toNat, by have := Int.emod_nonneg at_ (show (N : Int) + 1 ≠ 0 by omega); omega⟩
          have hkN : kk ≤ N := by have := Int.emod_lt_of_pos at_ (show (0 : Int) < (N : Int) + 1 by omega); omega
          obtain ⟨x, hx⟩ := list_at (xs := ls) (k := kk) (by rw [HLEN.out]; omega)
          obtain ⟨t, ht⟩ : ∃ t, strOfNums (prs bs n) = t := ⟨_, rfl⟩
          have hal := Lib.hid ((Below.refl wr.heap.size wr).alloc (Nat.le_refl _) (.cells (ls.map Value.string).toArray 9))
          have hblk : (wr.alloc (.cells (ls.map Value.string).toArray 9)).heap[wr.heap.size]? = some (.cells (ls.map Value.string).toArray 9 (0, 0)) := World.alloc_heap_new wr _
          have c0 : (wr.alloc (.cells (ls.map Value.string).toArray 9)).cell? ⟨wr.heap.size, kk, none⟩ = some (.string x) := by simp only [World.cell?, hblk]; simp [hx]
          have f0 : (wr.alloc (.cells (ls.map Value.string).toArray 9)).frozen? ⟨wr.heap.size, kk, none⟩ = false := by simp only [World.frozen?, hblk]; simp
          have hconv := (HO2.out.below (Below.drew hal.out)).conv (cap := cap)
          rw [ht] at hconv
          have hxl : x.toList ∈ linesL s.toList := by rw [← HSL.out]; exact List.mem_map_of_mem (List.mem_of_getElem? hx)
          have hxs : x.size ≤ 2000 := by have := linesL_le _ _ hxl; rw [length_toList, length_toList] at this; omega
          have hts : t.size ≤ 100 := by rw [← ht, strOfNums_size, HO2.out.len]; exact hn1
          clear hxl
          have HT := Lib.hid ht
          have HX := Lib.hid hx
          have HKK := Lib.hid hkk
          clear hx ht hblk
          go_region
          obtain ⟨y, hy⟩ : ∃ y, x ++ ((⟨#[32, 45, 45]⟩ : ByteArray) ++ t) = y := ⟨_, rfl⟩
          rw [hy]
          have hyl : y.toList = x.toList ++ cmt (cbs bs) := by
            rw [← hy, toList_append, toList_append, ← HT.out, str_cbs bs HBL.out, note_mark]; rfl
          have hset : (ls.map Value.string).set kk (Value.string y) = (ls.set kk y).map Value.string := List.map_set.symm
          rw [hset]
          obtain ⟨ks, hks⟩ : ∃ ks, ls.set kk y = ks := ⟨_, rfl⟩
          rw [hks]
          have hkl : ks.length = N + 1 := by rw [← hks, List.length_set]; exact HLEN.out
          have hlines : ks.map (·.data.toList) = (linesL s.toList).set kk (x.toList ++ cmt (cbs bs)) := by
            have e : (fun z : ByteArray => z.data.toList) = fun z => z.toList := by funext z; rw [ByteArray.toList_eq]
            rw [e, ← hks, List.map_set, HSL.out, hyl]
          have hxl2 : (linesL s.toList)[kk]? = some x.toList := by rw [← HSL.out, List.getElem?_map, HX.out]; rfl
          have hcl : (cbs bs).length = n := by unfold cbs; rw [List.length_map, List.length_map, HBL.out]
          obtain ⟨hrd, hjl⟩ := read_cmt (cbs_print bs) hxl2 (by rw [length_toList]; exact hs2) (by rw [hcl]; exact hn1)
          rw [← hlines, ← join_ln, length_toList, hcl] at hjl
          rw [← hlines, ← join_ln] at hrd
          obtain ⟨J, hJ⟩ : ∃ J, Lib.join (ks.map (·.data.toList)) [10] = J := ⟨_, rfl⟩
          rw [hJ] at hjl hrd
          obtain ⟨W3, hW3⟩ : ∃ W3, (wr.alloc (.cells (ks.map Value.string).toArray 9)).drew = W3 := ⟨_, rfl⟩
          have hb3 : Below wr.heap.size wr W3 := by rw [← hW3]; exact Below.drew ((Below.refl wr.heap.size wr).alloc (Nat.le_refl _) _)
          have hk3 : ∀ (j : Nat) z, ks[j]? = some z → W3.cell? ⟨wr.heap.size, j, none⟩ = some (.string z) := fun j z hz => by
            rw [← hW3]
            have hblk : (wr.alloc (.cells (ks.map Value.string).toArray 9)).heap[wr.heap.size]? = some (.cells (ks.map Value.string).toArray 9 (0, 0)) := World.alloc_heap_new wr _
            show (wr.alloc (.cells (ks.map Value.string).toArray 9)).cell? ⟨wr.heap.size, j, none⟩ = some (.string z)
            simp only [World.cell?, hblk]; simp [hz]
          rw [hW3]
          obtain ⟨r, hr⟩ : ∃ r, readL s.toList = r := ⟨_, rfl⟩
          rw [hr] at hrd
          have hle := readL_le s.toList
          rw [hr] at hle
          obtain ⟨nr, hnr⟩ : ∃ nr, r.toks.length = nr := ⟨_, rfl⟩
          obtain ⟨ln, hln⟩ : ∃ ln, r.line = ln := ⟨_, rfl⟩
          obtain ⟨er, her⟩ : ∃ er, r.err = er := ⟨_, rfl⟩
          rw [hnr] at hle
          have HR := Lib.hid hr
          have HRD := Lib.hid hrd
          have HNR := Lib.hid hnr
          have HLN := Lib.hid hln
          have HER := Lib.hid her
          have HJ := Lib.hid hJ
          have HJL := Lib.hid hjl
          have HKL := Lib.hid hkl
          have HK3 := Lib.hid hk3
          have HB3 := Lib.hid (after HW.out hb3)
          have HSS := Lib.hid (show s.size ≤ 140737488355328 by omega)
          clear hyl hset hks hkl hlines hxl2 hcl hrd hjl hJ hW3 hb3 hk3 hr hnr hln her hy c0 f0 hconv hal
          go_wp2_with (first
            | (have K := HR.out; go_at_call 24; refine (tokens_reads _ _ (HL.out.below HB3.out).len HSS.out).mono ?_; rw [K]; clear HR K; rintro e w4 ⟨q4, c4, rfl, hrow, hb⟩; rw [HNR.out] at hrow; have HT4 := Lib.hid (toks_of_row hrow HNR.out); have HB34 := Lib.hid hb; have HB4 := Lib.hid (after HB3.out hb); rw [HNR.out, HLN.out, HER.out]; clear hrow hb)
            | (go_at_call 35; refine (join_any wr.heap.size N ks _ HKL.out hNs (fun j z hz => keepA' HB34.out (HK3.out j z hz)) (by rw [HJ.out, HJL.out]; omega)).mono ?_; rw [HJ.out]; rintro e w5 ⟨q5, rfl, hq5, hb⟩; have HT5 := Lib.hid (HT4.out.below hb); have HB5 := Lib.hid (after HB4.out hb); have HQ5 := Lib.hid hq5; have HS5 := Lib.hid (show q5.size ≤ 140737488355328 by rw [← length_toList, hq5, HJL.out]; omega); clear hq5 hb)
            | (have K := HRD.out; go_at_call 24; refine (tokens_reads _ _ (HL.out.below HB5.out).len HS5.out).mono ?_; rw [HQ5.out, K]; clear HRD K; rintro e w6 ⟨q6, c6, rfl, hrow, hb⟩; rw [HNR.out] at hrow; have HT6 := Lib.hid (toks_of_row hrow HNR.out); have HT5' := Lib.hid (HT5.out.below hb); have HB6 := Lib.hid (after HB5.out hb); rw [HNR.out, HLN.out, HER.out]; clear hrow hb)
            | (go_at_call 26; refine (equal_any _ _ _ _ _ _ _ _ _ HT5'.out HT6.out (by omega) (by omega)).mono ?_; rw [eq_refl]; rintro e w7 ⟨rfl, hb⟩; have HB7 := Lib.hid (after HB6.out hb); clear hb)
            | (go_at_call 19; refine (awake_any _ (HL.out.below HB7.out)).mono ?_; rintro e w8 ⟨rfl, hb⟩; have HB8 := Lib.hid (after HB7.out hb); clear hb))
          go_returns
          exact ⟨rfl, HB8.out⟩

end Go.Proofs.YtfcinienehpkjaaDoor
