/- The tied card of the law ValueHeld is proved: for every two values and every two lists of pairs within the form's own reach, the law returns true, and each argument reads afterwards as it did; no condition of ours beside what the card lists. -/
import Derived.Test.YtnnnnlcpmocnfaaDoorRows
import Derived.Test.YtnnnnlcpmocnfaaDoorCards
import Derived.Test.YtnnnnlcpmocnfaaDoorTie
import Derived.Test.YtnnnnlcpmocnfaaDoorVop
import Derived.Test.YtnnnnlcpmocnfaaDoorHw
import Derived.Test.YtnnnnlcpmocnfaaDoorDc5
import Derived.Test.YtnnnnlcpmocnfaaDoorTb
import Derived.SizedLaws
import Derived.ProofKit
import Derived.OpenShut
import Derived.ShutString
import Derived.LaidMore
import Derived.Lay
import Derived.Carry
import Derived.SevenTiedAt
import Derived.Stop.Joined
namespace Go.Proofs.YtnnnnlcpmocnfaaDoor.valueHeld
open Go.ChangeShapes Go.WideShapes Go.ChangeAt Go.RowKit
open Go.ChangeMaps (open_string shut_string)
set_option linter.unusedVariables false
set_option linter.unusedSimpArgs false

theorem own : ownKnob Tryd.prog.godebug = none := by kernel_rfl
theorem laidOut : laidOutB Tryd.prog = true := by kernel_rfl

theorem walk (x y : V) (l m : List (ByteArray × V)) (hl112 : l.length * 112 ≤ 140737488351232) (w : World) (q1 q2 r1 r2 ql qm : Value)
    (hT : Tabs w) (hx : Rep Any w q1 q2 x) (hy : Rep Any w r1 r2 y) (hl : RepP Any w ql l) (hm : RepP Any w qm m) :
    Calls Tryd.prog 3 #[.agg (cv x q1 q2), .agg (cv y r1 r2), ql, qm] w fun e w' => e = .returned (.bool true) ∧ Below w.heap.size w w' :=
  held_of x y l m (cmpV x.k x.s x.n x.f y.k y.s y.n y.f).1 (cmpV x.k x.s x.n x.f y.k y.s y.n y.f).2 w q1 q2 r1 r2 ql qm
    (fun W => compare_any x.k x.s x.b x.n x.f q1 q2 y.k y.s y.b y.n y.f r1 r2 ⟨hx.parts.1.n0, hx.parts.1.n1⟩ ⟨hy.parts.1.n0, hy.parts.1.n1⟩ W)
    (fun W => dcompare_any x.k x.s x.b x.n x.f q1 q2 y.k y.s y.b y.n y.f r1 r2 ⟨hx.parts.1.n0, hx.parts.1.n1⟩ ⟨hy.parts.1.n0, hy.parts.1.n1⟩ W)
    hT hx hy hl hm (by omega)

set_option maxRecDepth 100000 in
theorem lifted (os : Os) (started : os.Started) (H : Type) (enc : TypeId × Value → H) :
    ReturnsInHanded {} Tryd.checked os 3 .any (fun w args => (Rows.valueHeldSpec.pre enc Tryd.prog Tryd.f3 Rows.valueHeldRow.domain false w args ∧ laidMetH Tryd.prog Rows.valueHeldRow.laid w) ∧ sizedMet enc Tryd.prog Tryd.f3 (OpenSpec.ofChange Rows.valueHeldSpec) false w args)
      (Rows.valueHeldSpec.post enc Tryd.prog Tryd.f3 false true false false) := by
  refine returnsInHanded_of_change_and (C := Tryd.checked) (X := fun w _ => laidMetH Tryd.prog Rows.valueHeldRow.laid w) (fun _ _ _ hh h => h.of_heap hh) own started (by kernel_rfl) Tryd.func3
    (ChangeSpec.witness_shaped (enc := enc) (C := Tryd.checked) (os := os) (X := fun w _ => laidMetH Tryd.prog Rows.valueHeldRow.laid w) false (World.laidAll Tryd.prog os Rows.valueHeldRow.laid) #[.agg (gv 0 ⟨#[]⟩ false 0 0 (.slice none 0 0) (.slice none 0 0)), .agg (gv 0 ⟨#[]⟩ false 0 0 (.slice none 0 0) (.slice none 0 0)), .slice none 0 0, .slice none 0 0] 8 (World.laidAll_os _ _ _)
      (World.shaped_of_ZipB (by kernel_rfl) (by kernel_rfl)) (by kernel_rfl) (by kernel_rfl) (by kernel_rfl)
      (by rw [MakeChecks.laidMetH_plain _ _ _ (by kernel_rfl)]; exact laidMet_laidAll _ (by kernel_rfl) (by kernel_rfl))) ?_
  intro W base args ds gs before hval0 hW hcnd0 hsz0 hL _
  have hval : ∀ (j : Nat) t v, Tryd.f3.params[j]? = some t → args[j]? = some v → Value.okWide Tryd.prog W .any base t v := hval0
  have hsz : (DataW.weightsEach Tryd.prog (Tryd.f3.params.toList ++ Rows.valueHeldSpec.plain.varTypes Tryd.prog) (ds ++ gs)).all (· ≤ reachBytes) = true := hsz0
  have hlt := fun x hx => hW.lt x hx
  have hW' := hW
  obtain ⟨p, q, hA0, hV, rfl, hfz, hnd⟩ := hW
  have hA : DataW.TrodAll enc Tryd.prog W 0 (fun _ => true) true Tryd.f3.params.toList args.toList ds p := hA0
  rw [Tryd.params3] at hA hval hsz
  obtain ⟨v0, vs0, d0, ds0, p0, q0, hargs, rfl, rfl, h0, r0⟩ := trodAll_cons hA
  obtain ⟨v1, vs1, d1, ds1, p1, q1, rfl, rfl, rfl, h1, r1⟩ := trodAll_cons r0
  obtain ⟨v2, vs2, d2, ds2, p2, q2, rfl, rfl, rfl, h2, r2⟩ := trodAll_cons r1
  obtain ⟨v3, vs3, d3, ds3, p3, q3, rfl, rfl, rfl, h3, r3⟩ := trodAll_cons r2
  obtain ⟨rfl, rfl, rfl⟩ := trodAll_nil r3
  obtain rfl : args = #[v0, v1, v2, v3] := by cases args; simp_all
  obtain ⟨rfl, rfl⟩ := trodVars_none hV
  have l0 : Lit1 27 d0 := Lit1.each hsz 0 27 d0 rfl rfl
  have l1 : Lit1 27 d1 := Lit1.each hsz 1 27 d1 rfl rfl
  have l2 : Lit1 25 d2 := Lit1.each hsz 2 25 d2 rfl rfl
  have l3 : Lit1 25 d3 := Lit1.each hsz 3 25 d3 rfl rfl
  obtain ⟨x0, a0, b0, rfl, rep0⟩ := arg_val (hval 0 27 v0 rfl rfl) h0 l0
  obtain ⟨x1, a1, b1, rfl, rep1⟩ := arg_val (hval 1 27 v1 rfl rfl) h1 l1
  obtain ⟨x2, rep2, hb2⟩ := arg_pairs (hval 2 25 v2 rfl rfl) h2 l2
  obtain ⟨x3, rep3, hb3⟩ := arg_pairs (hval 3 25 v3 rfl rfl) h3 l3
  clear hA0 hval0
  try simp only [List.append_nil, List.nil_append] at hW'
  refine (walk x0 x1 x2 x3 hb2 W a0 b0 a1 b1 v2 v3 (tabs_laid hL) rep0 rep1 rep2 rep3).mono fun e W' ⟨he, bel⟩ => ?_
  subst he
  have r25 : Tryd.prog.readableRec 25 = true := by kernel_rfl
  have s25 : (25 : TypeId) < Tryd.prog.types.size := of_decide_eq_true (by kernel_rfl)
  have r27 : Tryd.prog.readableRec 27 = true := by kernel_rfl
  have s27 : (27 : TypeId) < Tryd.prog.types.size := of_decide_eq_true (by kernel_rfl)
  exact ⟨_, rfl, _, _, _, [], _, [], hW', trodAll_mk1 (shut_bool Tryd.underlying4 _), (trodAll_cons_mk (Below.trod laidOut r27 s27 h0 bel fun x hx => hlt x (by simp [hx])) (trodAll_cons_mk (Below.trod laidOut r27 s27 h1 bel fun x hx => hlt x (by simp [hx])) (trodAll_cons_mk (Below.trod laidOut r25 s25 h2 bel fun x hx => hlt x (by simp [hx])) (trodAll_cons_mk (Below.trod laidOut r25 s25 h3 bel fun x hx => hlt x (by simp [hx])) trodAll_mk0)))), rfl, bel.frame _, fun h => by cases h⟩

set_option maxRecDepth 100000 in
theorem holds : Rows.ValueHeldSaid :=
  OpenClaim.holds_of_wide 3 Tryd.f3 rfl rfl rfl rfl rfl rfl rfl ⟨rfl, rfl, rfl, rfl, rfl⟩ rfl rfl rfl rfl rfl (by kernel_rfl) Tryd.func3 (by kernel_rfl)
    (of_decide_eq_true (by kernel_rfl)) (by unfold Func.isWrapper; first | (rw [if_pos (by decide +kernel)]; kernel_rfl) | (rw [if_neg (by decide +kernel)]; exact ⟨rfl, rfl⟩))
    (fun os started H enc _ => lifted os started H enc)

theorem proved : Rows.ValueHeldCardSaid :=
  Claim7.holds_tied_plain_at .later [] [.data, .pinned] true (true, "7373c1efbab3d802bc26fc9f45abaebeb7947f160a877160c81e9c24ffab6772") true holds (fun _ h => by cases h) (by kernel_rfl) (fun _ h => by cases h) valueHeld_row_tie rfl ⟨rfl, rfl⟩ (by kernel_rfl) rfl
    (fun f fn hf hfn => by
      obtain rfl : f = 3 := Option.some.inj ((show Tryd.prog.funcNamed "penstock/penstocklaw02.ValueHeld" = some 3 by kernel_rfl).symm.trans hf) |>.symm
      obtain rfl : fn = Tryd.f3 := (Option.some.inj (Tryd.func3.symm.trans hfn)).symm
      exact ⟨by kernel_rfl, fun j t ht => by
        rw [Tryd.params3] at ht
        have hm : t ∈ [27, 27, 25, 25] := by simpa using Array.mem_of_getElem? ht
        have hall : ([27, 27, 25, 25].all fun u => !Tryd.prog.wantsStandIn u) = true := by kernel_rfl
        exact (show Tryd.prog.wantsStandIn t = false by simpa using List.all_eq_true.1 hall t hm)⟩)
    (by kernel_rfl)
#print axioms proved
end Go.Proofs.YtnnnnlcpmocnfaaDoor.valueHeld
