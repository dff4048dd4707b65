/-
  NumIvals: for every input, in every world in which package num's variables hold what the text lays, the law returns true and leaves its arguments as they were. The row and its tied card.
-/
import Derived.Test.YtmmplaabgnmkcaaDoorNumL
import Derived.Test.YtmmplaabgnmkcaaDoorNumLi
namespace Go.Proofs.YtmmplaabgnmkcaaDoor.numIvals
open Go Go.RowKit Go.ChangeShapes Go.WideShapes Go.ChangeAt Go.Joins

theorem contract (H : Type) (enc : TypeId × Value → H) (W : World) (base : Nat) (args : Array Value) (ds gs : List (DataW H)) (before : List MemPlace)
    (hval : ∀ (j : Nat) t v, Tryd.f5.params[j]? = some t → args[j]? = some v → Value.okWide Tryd.prog W .any base t v)
    (hW : DataW.Whole enc Tryd.prog Tryd.f5.params.toList Rows.numIvalsSpec.vars false W args.toList ds gs before) (hL : laidMetH Tryd.prog Rows.numIvalsRow.laid W) :
    Calls Tryd.prog 5 args W fun e W' => ∃ v, e = .returned v ∧ Rows.numIvalsSpec.post enc Tryd.prog Tryd.f5 false true false false W args v W' := by
  have hW' := hW
  obtain ⟨p, q, hA0, hV, rfl, hfz, hnd⟩ := hW
  have hA : DataW.TrodAll enc Tryd.prog W 0 (fun _ => true) true Tryd.f5.params.toList args.toList ds p := hA0
  rw [Tryd.params5] at hA hval
  obtain ⟨v0, vs0, d0, ds0, p0, q0, hargs, rfl, rfl, h0, r0⟩ := trodAll_cons hA
  obtain ⟨v1, vs1, d1, ds1, p1, q1, rfl, rfl, rfl, h1, r1⟩ := trodAll_cons r0
  obtain ⟨v2, vs2, d2, ds2, p2, q2, rfl, rfl, rfl, h2, r2⟩ := trodAll_cons r1
  obtain ⟨v3, vs3, d3, ds3, p3, q3, rfl, rfl, rfl, h3, r3⟩ := trodAll_cons r2
  obtain ⟨rfl, rfl, rfl⟩ := trodAll_nil r3
  obtain rfl : args = #[v0, v1, v2, v3] := by cases args; simp_all
  obtain ⟨rfl, rfl⟩ := trodVars_none hV
  obtain ⟨x0, z0, y0, y0', m0, rfl, rfl, rfl, e0, e0'⟩ := open_agg2 Tryd.underlying29 (by kernel_rfl) cellsIval (hval 0 29 v0 rfl rfl) h0
  obtain ⟨a0, a0, rfl, wa0⟩ := DataW.trod_int Tryd.underlying2 e0
  obtain ⟨a1, a0', rfl, wa1⟩ := DataW.trod_int Tryd.underlying2 e0'
  simp at a0 a0'
  subst a0 a0'
  obtain ⟨x1, z1, y1, y1', m1, rfl, rfl, rfl, e1, e1'⟩ := open_agg2 Tryd.underlying29 (by kernel_rfl) cellsIval (hval 1 29 v1 rfl rfl) h1
  obtain ⟨b0, a1, rfl, wb0⟩ := DataW.trod_int Tryd.underlying2 e1
  obtain ⟨b1, a1', rfl, wb1⟩ := DataW.trod_int Tryd.underlying2 e1'
  simp at a1 a1'
  subst a1 a1'
  obtain ⟨x2, z2, y2, y2', m2, rfl, rfl, rfl, e2, e2'⟩ := open_agg2 Tryd.underlying29 (by kernel_rfl) cellsIval (hval 2 29 v2 rfl rfl) h2
  obtain ⟨c0, a2, rfl, wc0⟩ := DataW.trod_int Tryd.underlying2 e2
  obtain ⟨c1, a2', rfl, wc1⟩ := DataW.trod_int Tryd.underlying2 e2'
  simp at a2 a2'
  subst a2 a2'
  obtain ⟨v, rfl, rfl, rfl, wv⟩ := open_int Tryd.underlying2 (hval 3 2 v3 rfl rfl) h3
  clear hA0
  simp only [List.append_nil] at hW'
  refine (law_numIvals a0 a1 b0 b1 c0 c1 v W (laid_of hL) (bounds_i64 wa0) (bounds_i64 wa1) (bounds_i64 wb0) (bounds_i64 wb1) (bounds_i64 wc0) (bounds_i64 wc1) (bounds_i64 wv)).mono fun e W' ⟨he, hg⟩ => ?_
  subst he
  exact ⟨_, rfl, _, _, _, [], [], [], hW', trodAll_cons_mk (shut_bool Tryd.underlying4 _) trodAll_mk0, (trodAll_cons_mk (shut_agg2 (y0 := (.lit (.int .i64 a0), [])) (y1 := (.lit (.int .i64 a1), [])) Tryd.underlying29 (by kernel_rfl) cellsIval ⟨1, by simp [DataW.trod, Tryd.underlying2, wa0]⟩ ⟨1, by simp [DataW.trod, Tryd.underlying2, wa1]⟩) (trodAll_cons_mk (shut_agg2 (y0 := (.lit (.int .i64 b0), [])) (y1 := (.lit (.int .i64 b1), [])) Tryd.underlying29 (by kernel_rfl) cellsIval ⟨1, by simp [DataW.trod, Tryd.underlying2, wb0]⟩ ⟨1, by simp [DataW.trod, Tryd.underlying2, wb1]⟩) (trodAll_cons_mk (shut_agg2 (y0 := (.lit (.int .i64 c0), [])) (y1 := (.lit (.int .i64 c1), [])) Tryd.underlying29 (by kernel_rfl) cellsIval ⟨1, by simp [DataW.trod, Tryd.underlying2, wc0]⟩ ⟨1, by simp [DataW.trod, Tryd.underlying2, wc1]⟩) (trodAll_cons_mk (shut_int Tryd.underlying2 wv) trodAll_mk0)))), rfl, hg.frame _, fun h => by cases h⟩

theorem laid_met (os : Os) : laidMet Tryd.prog Rows.numIvalsRow.laid ((laidWorld os).forCall (fun _ _ => 0) ⟨#[], #[.agg #[.int .i64 0, .int .i64 0], .agg #[.int .i64 0, .int .i64 0], .agg #[.int .i64 0, .int .i64 0], .int .i64 0], []⟩).memory :=
  laidMet_of_run' 8 (by kernel_rfl) (by kernel_rfl)
theorem reads (os : Os) {H : Type} (enc : TypeId × Value → H) : ∃ places, DataW.whole enc Tryd.prog ((laidWorld os).forCall (fun _ _ => 0) ⟨#[], #[.agg #[.int .i64 0, .int .i64 0], .agg #[.int .i64 0, .int .i64 0], .agg #[.int .i64 0, .int .i64 0], .int .i64 0], []⟩).memory Tryd.f5.params.toList Rows.numIvalsSpec.vars false (#[.agg #[.int .i64 0, .int .i64 0], .agg #[.int .i64 0, .int .i64 0], .agg #[.int .i64 0, .int .i64 0], .int .i64 0] : Array Value).toList 8 = some ([.agg [.lit (.int .i64 0), .lit (.int .i64 0)], .agg [.lit (.int .i64 0), .lit (.int .i64 0)], .agg [.lit (.int .i64 0), .lit (.int .i64 0)], .lit (.int .i64 0)], [], places) :=
  ⟨[], by kernel_rfl⟩

set_option maxRecDepth 100000 in
theorem lifted (os : Os) (started : os.Started) (H : Type) (enc : TypeId × Value → H) (F : Stop.Interp) :
    ReturnsInHanded {} Tryd.checked os 5 .any ((OpenSpec.ofChange Rows.numIvalsSpec).preRow enc Tryd.prog Tryd.f5 Rows.numIvalsRow.domain false Rows.numIvalsRow.laid) (((OpenSpec.ofChange Rows.numIvalsSpec).at F).post enc Tryd.prog Tryd.f5 false true false false) := by
  obtain ⟨places, hx⟩ := reads os enc
  refine returnsInHanded_of_row (C := Tryd.checked) (s := OpenSpec.ofChange Rows.numIvalsSpec) own started (by kernel_rfl) Tryd.func5
    (witness_row_at (enc := enc) (C := Tryd.checked) false (laidWorld os) #[.agg #[.int .i64 0, .int .i64 0], .agg #[.int .i64 0, .int .i64 0], .agg #[.int .i64 0, .int .i64 0], .int .i64 0] rfl (by kernel_rfl) (by kernel_rfl) (by kernel_rfl)
      (OpenSpec.preRow_of_cond 8 hx (by kernel_rfl) (fun k hk => by cases hk) (by kernel_rfl) (laid_met os))) ?_
  intro W base args ds gs before hval hW _ _ _ hL _ _
  exact contract H enc W base args ds gs before hval hW hL

theorem said : Rows.NumIvalsSaid :=
  OpenClaim.holds_of_cond 5 Tryd.f5 rfl rfl rfl rfl rfl rfl rfl ⟨rfl, rfl, rfl, rfl, rfl⟩ rfl rfl rfl rfl rfl (by kernel_rfl) Tryd.func5 (by kernel_rfl)
    (of_decide_eq_true (by kernel_rfl)) (by unfold Func.isWrapper; first | (rw [if_pos (by decide +kernel)]; kernel_rfl) | (rw [if_neg (by decide +kernel)]; exact ⟨rfl, rfl⟩))
    (fun os started H enc _ F => by rw [OpenClaim.pre_eq_preRow]; exact lifted os started H enc F)

theorem plain (f : FuncId) (fn : Func) (hf : Tryd.pinned.checked.prog.funcNamed "ceiling/ceilinglaw01.NumIvals" = some f) (hfn : Tryd.pinned.checked.prog.funcs[f]? = some fn) :
    false = Tryd.pinned.checked.prog.looks [] ∧ ∀ (j : Nat) t, fn.params[j]? = some t → Tryd.pinned.checked.prog.wantsStandIn t = false := by
  obtain rfl : f = 5 := Option.some.inj ((show Tryd.prog.funcNamed "ceiling/ceilinglaw01.NumIvals" = some 5 by kernel_rfl).symm.trans hf) |>.symm
  obtain rfl : fn = Tryd.f5 := (Option.some.inj (Tryd.func5.symm.trans hfn)).symm
  refine ⟨by kernel_rfl, fun j t ht => ?_⟩
  rw [Tryd.params5] at ht
  have hm : t ∈ [29, 29, 29, 2] := by simpa using Array.mem_of_getElem? ht
  have hall : ([29, 29, 29, 2].all fun u => !Tryd.prog.wantsStandIn u) = true := by kernel_rfl
  exact (show Tryd.prog.wantsStandIn t = false by simpa using List.all_eq_true.1 hall t hm)

/-- THE CARD. -/
theorem card : Rows.NumIvalsCardSaid :=
  Claim7.holds_tied_plain_at .later [] _ _ _ _ said (fun _ h => by cases h) (by kernel_rfl) (fun _ h => by cases h) numIvals_row_tie rfl ⟨rfl, rfl⟩ (by kernel_rfl) rfl plain (by kernel_rfl)
end Go.Proofs.YtmmplaabgnmkcaaDoor.numIvals
namespace Go.Proofs.YtmmplaabgnmkcaaDoor
theorem numIvals_card : Rows.NumIvalsCardSaid := numIvals.card
end Go.Proofs.YtmmplaabgnmkcaaDoor
