/- The tied card of the law ValueMessages is proved: for every value, every pair and every text within the form's own reach, the law returns true, and each argument reads afterwards as it did; no condition of ours beside what the card lists. -/
import Derived.Test.YtnnnnlcpmocnfaaGreatDoorRows
import Derived.Test.YtnnnnlcpmocnfaaGreatDoorCards
import Derived.Test.YtnnnnlcpmocnfaaGreatDoorTie
import Derived.Test.YtnnnnlcpmocnfaaGreatDoorVop
import Derived.Test.YtnnnnlcpmocnfaaGreatDoorMw
import Derived.Test.YtnnnnlcpmocnfaaGreatDoorTb
import Derived.SizedLaws
import Derived.ProofKit
import Derived.OpenShut
import Derived.ShutString
import Derived.LaidMore
import Derived.Lay
import Derived.Carry
import Derived.SevenTiedAt
import Derived.Stop.Joined
namespace Go.Proofs.YtnnnnlcpmocnfaaGreatDoor.valueMessages
open Go.ChangeShapes Go.WideShapes Go.ChangeAt Go.RowKit
open Go.ChangeMaps (open_string shut_string)
set_option linter.unusedVariables false
set_option linter.unusedSimpArgs false

theorem own : ownKnob Tryz.prog.godebug = none := by kernel_rfl
theorem laidOut : laidOutB Tryz.prog = true := by kernel_rfl

theorem walk (x y : V) (key s : ByteArray) (hk : key.size ≤ 140737488353000) (hs : s.size ≤ 140737488353000) (w : World) (q1 q2 r1 r2 : Value) (hT : Tabs w) (hx : Rep Any w q1 q2 x) (hy : Rep Any w r1 r2 y) :
    Calls Tryz.prog 3 #[.agg (cv x q1 q2), .agg (pv key y r1 r2), .string s] w fun e w' => e = .returned (.bool true) ∧ Below w.heap.size w w' := by
  have h := mess_of x y key hk s.data.toList (by have : s.data.toList.length = s.size := rfl; omega) w q1 q2 r1 r2 hT hx hy
  rwa [show (⟨s.data.toList.toArray⟩ : ByteArray) = s from by cases s; simp] at h

set_option maxRecDepth 100000 in
theorem lifted (os : Os) (started : os.Started) (H : Type) (enc : TypeId × Value → H) :
    ReturnsInHanded {} Tryz.checked os 3 .any (fun w args => (Rows.valueMessagesSpec.pre enc Tryz.prog Tryz.f3 Rows.valueMessagesRow.domain false w args ∧ laidMetH Tryz.prog Rows.valueMessagesRow.laid w) ∧ sizedMet enc Tryz.prog Tryz.f3 (OpenSpec.ofChange Rows.valueMessagesSpec) false w args)
      (Rows.valueMessagesSpec.post enc Tryz.prog Tryz.f3 false true false false) := by
  refine returnsInHanded_of_change_and (C := Tryz.checked) (X := fun w _ => laidMetH Tryz.prog Rows.valueMessagesRow.laid w) (fun _ _ _ hh h => h.of_heap hh) own started (by kernel_rfl) Tryz.func3
    (ChangeSpec.witness_shaped (enc := enc) (C := Tryz.checked) (os := os) (X := fun w _ => laidMetH Tryz.prog Rows.valueMessagesRow.laid w) false (World.laidAll Tryz.prog os Rows.valueMessagesRow.laid) #[.agg (gv 0 ⟨#[]⟩ false 0 0 (.slice none 0 0) (.slice none 0 0)), .agg #[.string ⟨#[]⟩, .int .u8 0, .string ⟨#[]⟩, .bool false, .int .i64 0, .float .f64 0, .slice none 0 0, .slice none 0 0], .string ByteArray.empty] 8 (World.laidAll_os _ _ _)
      (World.shaped_of_ZipB (by kernel_rfl) (by kernel_rfl)) (by kernel_rfl) (by kernel_rfl) (by kernel_rfl)
      (by rw [MakeChecks.laidMetH_plain _ _ _ (by kernel_rfl)]; exact laidMet_laidAll _ (by kernel_rfl) (by kernel_rfl))) ?_
  intro W base args ds gs before hval0 hW hcnd0 hsz0 hL _
  have hval : ∀ (j : Nat) t v, Tryz.f3.params[j]? = some t → args[j]? = some v → Value.okWide Tryz.prog W .any base t v := hval0
  have hsz : (DataW.weightsEach Tryz.prog (Tryz.f3.params.toList ++ Rows.valueMessagesSpec.plain.varTypes Tryz.prog) (ds ++ gs)).all (· ≤ reachBytes) = true := hsz0
  have hlt := fun x hx => hW.lt x hx
  have hW' := hW
  obtain ⟨p, q, hA0, hV, rfl, hfz, hnd⟩ := hW
  have hA : DataW.TrodAll enc Tryz.prog W 0 (fun _ => true) true Tryz.f3.params.toList args.toList ds p := hA0
  rw [Tryz.params3] at hA hval hsz
  obtain ⟨v0, vs0, d0, ds0, p0, q0, hargs, rfl, rfl, h0, r0⟩ := trodAll_cons hA
  obtain ⟨v1, vs1, d1, ds1, p1, q1, rfl, rfl, rfl, h1, r1⟩ := trodAll_cons r0
  obtain ⟨v2, vs2, d2, ds2, p2, q2, rfl, rfl, rfl, h2, r2⟩ := trodAll_cons r1
  obtain ⟨rfl, rfl, rfl⟩ := trodAll_nil r2
  obtain rfl : args = #[v0, v1, v2] := by cases args; simp_all
  obtain ⟨rfl, rfl⟩ := trodVars_none hV
  have l0 : Lit1 27 d0 := Lit1.each hsz 0 27 d0 rfl rfl
  have l1 : Lit1 29 d1 := Lit1.each hsz 1 29 d1 rfl rfl
  obtain ⟨s2, rfl, rfl, rfl, z2⟩ := open_string Tryz.underlying9 (hval 2 9 v2 rfl rfl) h2
  have hl2 : s2.size ≤ 140737488353000 := by have h : s2.data.toList.length ≤ reachBytes := sized_string hsz (j := 2) (t := 9) rfl rfl
                                             simp [reachBytes] at h; exact Nat.le_trans h (by decide)
  obtain ⟨x0, a0, b0, rfl, rep0⟩ := arg_val (hval 0 27 v0 rfl rfl) h0 l0
  obtain ⟨k1, x1, a1, b1, rfl, hk1, rep1⟩ := arg_pair (hval 1 29 v1 rfl rfl) h1 l1
  clear hA0 hval0
  try simp only [List.append_nil, List.nil_append] at hW'
  refine (walk x0 x1 k1 s2 hk1 hl2 W a0 b0 a1 b1 (tabs_laid hL) rep0 rep1).mono fun e W' ⟨he, bel⟩ => ?_
  subst he
  have r27 : Tryz.prog.readableRec 27 = true := by kernel_rfl
  have s27 : (27 : TypeId) < Tryz.prog.types.size := of_decide_eq_true (by kernel_rfl)
  have r29 : Tryz.prog.readableRec 29 = true := by kernel_rfl
  have s29 : (29 : TypeId) < Tryz.prog.types.size := of_decide_eq_true (by kernel_rfl)
  exact ⟨_, rfl, _, _, _, [], _, [], hW', trodAll_mk1 (shut_bool Tryz.underlying4 _), (trodAll_cons_mk (Below.trod laidOut r27 s27 h0 bel fun x hx => hlt x (by simp [hx])) (trodAll_cons_mk (Below.trod laidOut r29 s29 h1 bel fun x hx => hlt x (by simp [hx])) (trodAll_cons_mk (shut_string Tryz.underlying9 z2) trodAll_mk0))), rfl, bel.frame _, fun h => by cases h⟩

set_option maxRecDepth 100000 in
theorem holds : Rows.ValueMessagesSaid :=
  OpenClaim.holds_of_wide 3 Tryz.f3 rfl rfl rfl rfl rfl rfl rfl ⟨rfl, rfl, rfl, rfl, rfl⟩ rfl rfl rfl rfl rfl (by kernel_rfl) Tryz.func3 (by kernel_rfl)
    (of_decide_eq_true (by kernel_rfl)) (by unfold Func.isWrapper; first | (rw [if_pos (by decide +kernel)]; kernel_rfl) | (rw [if_neg (by decide +kernel)]; exact ⟨rfl, rfl⟩))
    (fun os started H enc _ => lifted os started H enc)

theorem proved : Rows.ValueMessagesCardSaid :=
  Claim7.holds_tied_plain_at .later [] [.data, .pinned] true (true, "c8a93d38e3910395a0849d35d3620b8c7d4021b3978b6f47a033133fca34ca62") true holds (fun _ h => by cases h) (by kernel_rfl) (fun _ h => by cases h) valueMessages_row_tie rfl ⟨rfl, rfl⟩ (by kernel_rfl) rfl
    (fun f fn hf hfn => by
      obtain rfl : f = 3 := Option.some.inj ((show Tryz.prog.funcNamed "penstock/penstocklaw02.ValueMessages" = some 3 by kernel_rfl).symm.trans hf) |>.symm
      obtain rfl : fn = Tryz.f3 := (Option.some.inj (Tryz.func3.symm.trans hfn)).symm
      exact ⟨by kernel_rfl, fun j t ht => by
        rw [Tryz.params3] at ht
        have hm : t ∈ [27, 29, 9] := by simpa using Array.mem_of_getElem? ht
        have hall : ([27, 29, 9].all fun u => !Tryz.prog.wantsStandIn u) = true := by kernel_rfl
        exact (show Tryz.prog.wantsStandIn t = false by simpa using List.all_eq_true.1 hall t hm)⟩)
    (by kernel_rfl)
#print axioms proved
end Go.Proofs.YtnnnnlcpmocnfaaGreatDoor.valueMessages
