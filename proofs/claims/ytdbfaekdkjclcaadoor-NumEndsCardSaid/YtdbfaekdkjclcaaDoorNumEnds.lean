
/-
  NumEnds: for every input, in every world in which the listed variables hold what the text lays, the law returns true and leaves its arguments as they were. The row and its tied card.
-/
import Derived.Test.YtdbfaekdkjclcaaDoorNumL
import Derived.Test.YtdbfaekdkjclcaaDoorNumSl
import Derived.Test.YtdbfaekdkjclcaaDoorFr
namespace Go.Proofs.YtdbfaekdkjclcaaDoor.numEnds
open Go Go.RowKit Go.ChangeShapes Go.WideShapes Go.ChangeAt Go.Joins

theorem contract (H : Type) (enc : TypeId × Value → H) (W : World) (base : Nat) (args : Array Value) (ds gs : List (DataW H)) (before : List MemPlace)
    (hval : ∀ (j : Nat) t v, Tryd.f5.params[j]? = some t → args[j]? = some v → Value.okWide Tryd.prog W .any base t v)
    (hW : DataW.Whole enc Tryd.prog Tryd.f5.params.toList Rows.numEndsSpec.vars false W args.toList ds gs before) (hL : laidMetH Tryd.prog Rows.numEndsRow.laid W) :
    Calls Tryd.prog 5 args W fun e W' => ∃ v, e = .returned v ∧ Rows.numEndsSpec.post enc Tryd.prog Tryd.f5 false true false false W args v W' := by
  have hW' := hW
  have hgs : gs = [] := (by obtain ⟨_, _, _, hV, _⟩ := hW; exact (trodVars_none hV).1)
  subst hgs
  obtain ⟨p, q, hA, _, _, _, _⟩ := hW
  rw [Tryd.params5] at hA hval
  obtain ⟨v0, vs0, d0, ds0, p0, q0, hargs, rfl, rfl, h0, r0⟩ := trodAll_cons hA
  obtain ⟨v1, vs1, d1, ds1, p1, q1, rfl, rfl, rfl, h1, r1⟩ := trodAll_cons r0
  obtain ⟨v2, vs2, d2, ds2, p2, q2, rfl, rfl, rfl, h2, r2⟩ := trodAll_cons r1
  obtain ⟨rfl, rfl, rfl⟩ := trodAll_nil r2
  obtain rfl : args = #[v0, v1, v2] := by cases args; simp_all
  obtain ⟨x0, z0, y0, y0', m0, rfl, rfl, rfl, e0, e0'⟩ := open_agg2 Tryd.underlying24 (by kernel_rfl) cellsIval (hval 0 24 v0 rfl rfl) h0
  obtain ⟨a0, a0, rfl, wa0⟩ := DataW.trod_int Tryd.underlying2 e0
  obtain ⟨a1, a0', rfl, wa1⟩ := DataW.trod_int Tryd.underlying2 e0'
  simp at a0 a0'
  subst a0 a0'
  obtain ⟨x1, z1, y1, y1', m1, rfl, rfl, rfl, e1, e1'⟩ := open_agg2 Tryd.underlying24 (by kernel_rfl) cellsIval (hval 1 24 v1 rfl rfl) h1
  obtain ⟨c0, a1, rfl, wc0⟩ := DataW.trod_int Tryd.underlying2 e1
  obtain ⟨c1, a1', rfl, wc1⟩ := DataW.trod_int Tryd.underlying2 e1'
  simp at a1 a1'
  subst a1 a1'
  obtain ⟨lp, ll, lc, rfl, wl⟩ := open_ivals (hval 2 33 v2 rfl rfl) h2
  refine (law_numEnds a0 a1 c0 c1 lp ll lc W (laid_of hL) (bounds_i64 wa0) (bounds_i64 wa1) (bounds_i64 wc0) (bounds_i64 wc1) wl).mono fun e W' ⟨he, hg⟩ => ?_
  exact ⟨_, he, law_post laidOut (by kernel_rfl) rfl (by kernel_rfl) Tryd.underlying4 ⟨rfl, rfl, rfl⟩ hW' hg⟩

theorem laid_met (os : Os) : laidMet Tryd.prog Rows.numEndsRow.laid ((laidWorld os).forCall (fun _ _ => 0) ⟨#[], #[.agg #[.int .i64 0, .int .i64 0], .agg #[.int .i64 0, .int .i64 0], .slice none 0 0], []⟩).memory :=
  laidMet_of_run' 8 (by kernel_rfl) (by kernel_rfl)
theorem reads (os : Os) {H : Type} (enc : TypeId × Value → H) : ∃ places, DataW.whole enc Tryd.prog ((laidWorld os).forCall (fun _ _ => 0) ⟨#[], #[.agg #[.int .i64 0, .int .i64 0], .agg #[.int .i64 0, .int .i64 0], .slice none 0 0], []⟩).memory Tryd.f5.params.toList Rows.numEndsSpec.vars false (#[.agg #[.int .i64 0, .int .i64 0], .agg #[.int .i64 0, .int .i64 0], .slice none 0 0] : Array Value).toList 8 = some ([.agg [.lit (.int .i64 0), .lit (.int .i64 0)], .agg [.lit (.int .i64 0), .lit (.int .i64 0)], .nil], [], places) :=
  ⟨[], by kernel_rfl⟩

set_option maxRecDepth 100000 in
theorem lifted (os : Os) (started : os.Started) (H : Type) (enc : TypeId × Value → H) (F : Stop.Interp) :
    ReturnsInHanded {} Tryd.checked os 5 .any ((OpenSpec.ofChange Rows.numEndsSpec).preRow enc Tryd.prog Tryd.f5 Rows.numEndsRow.domain false Rows.numEndsRow.laid) (((OpenSpec.ofChange Rows.numEndsSpec).at F).post enc Tryd.prog Tryd.f5 false true false false) := by
  obtain ⟨places, hx⟩ := reads os enc
  refine returnsInHanded_of_row (C := Tryd.checked) (s := OpenSpec.ofChange Rows.numEndsSpec) own started (by kernel_rfl) Tryd.func5
    (witness_row_at (enc := enc) (C := Tryd.checked) false (laidWorld os) #[.agg #[.int .i64 0, .int .i64 0], .agg #[.int .i64 0, .int .i64 0], .slice none 0 0] rfl (by kernel_rfl) (by kernel_rfl) (by kernel_rfl)
      (OpenSpec.preRow_of_cond 8 hx (by kernel_rfl) (fun k hk => by cases hk) (by kernel_rfl) (laid_met os))) ?_
  intro W base args ds gs before hval hW _ _ _ hL _ _
  exact contract H enc W base args ds gs before hval hW hL

theorem said : Rows.NumEndsSaid :=
  OpenClaim.holds_of_cond 5 Tryd.f5 rfl rfl rfl rfl rfl rfl rfl ⟨rfl, rfl, rfl, rfl, rfl⟩ rfl rfl rfl rfl rfl (by kernel_rfl) Tryd.func5 (by kernel_rfl)
    (of_decide_eq_true (by kernel_rfl)) (by unfold Func.isWrapper; first | (rw [if_pos (by decide +kernel)]; kernel_rfl) | (rw [if_neg (by decide +kernel)]; exact ⟨rfl, rfl⟩))
    (fun os started H enc _ F => by rw [OpenClaim.pre_eq_preRow]; exact lifted os started H enc F)

theorem plain (f : FuncId) (fn : Func) (hf : Tryd.pinned.checked.prog.funcNamed "ceiling/ceilinglaw01.NumEnds" = some f) (hfn : Tryd.pinned.checked.prog.funcs[f]? = some fn) :
    false = Tryd.pinned.checked.prog.looks [] ∧ ∀ (j : Nat) t, fn.params[j]? = some t → Tryd.pinned.checked.prog.wantsStandIn t = false := by
  obtain rfl : f = 5 := Option.some.inj ((show Tryd.prog.funcNamed "ceiling/ceilinglaw01.NumEnds" = some 5 by kernel_rfl).symm.trans hf) |>.symm
  obtain rfl : fn = Tryd.f5 := (Option.some.inj (Tryd.func5.symm.trans hfn)).symm
  refine ⟨by kernel_rfl, fun j t ht => ?_⟩
  rw [Tryd.params5] at ht
  have hm : t ∈ [24, 24, 33] := by simpa using Array.mem_of_getElem? ht
  have hall : ([24, 24, 33].all fun u => !Tryd.prog.wantsStandIn u) = true := by kernel_rfl
  exact (show Tryd.prog.wantsStandIn t = false by simpa using List.all_eq_true.1 hall t hm)

/-- THE CARD. -/
theorem card : Rows.NumEndsCardSaid :=
  Claim7.holds_tied_plain_at .later [] _ _ _ _ said (fun _ h => by cases h) (by kernel_rfl) (fun _ h => by cases h) numEnds_row_tie rfl ⟨rfl, rfl⟩ (by kernel_rfl) rfl plain (by kernel_rfl)
end Go.Proofs.YtdbfaekdkjclcaaDoor.numEnds
namespace Go.Proofs.YtdbfaekdkjclcaaDoor
theorem numEnds_card : Rows.NumEndsCardSaid := numEnds.card
end Go.Proofs.YtdbfaekdkjclcaaDoor
