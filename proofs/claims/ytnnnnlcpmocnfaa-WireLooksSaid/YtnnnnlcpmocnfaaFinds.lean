/- The statement of the law WireFinds is proved: for every slice of fields, every number and every wire within the form's own reach, the law returns true, and each argument reads afterwards as it did; no condition of ours. -/
import Derived.Test.YtnnnnlcpmocnfaaRows
import Derived.Test.YtnnnnlcpmocnfaaLive
import Derived.Test.YtnnnnlcpmocnfaaSame
import Derived.Test.YtnnnnlcpmocnfaaOpen
import Derived.Test.YtnnnnlcpmocnfaaAll
import Derived.SizedLaws
import Derived.ProofKit
import Derived.OpenShut
import Derived.ShutString
namespace Go.Proofs.Ytnnnnlcpmocnfaa.wireFinds
open Go.ChangeShapes Go.WideShapes Go.ChangeAt Go.RowKit
open Go.ChangeMaps (open_string shut_string)
set_option linter.unusedVariables false
set_option linter.unusedSimpArgs false

theorem own : ownKnob Try.prog.godebug = none := by kernel_rfl

theorem _root_.Go.Proofs.Ytnnnnlcpmocnfaa.Flds.mono {w : World} {B B' : Nat} {ad : Option Addr} {fs : List M.Fd} (h : Flds w B ad fs) (hb : B ≤ B') : Flds w B' ad fs :=
  ⟨h.1, fun hne => by obtain ⟨g, off, e, hg, hi⟩ := h.2 hne; exact ⟨g, off, e, Nat.lt_of_lt_of_le hg hb, hi⟩⟩

theorem _root_.Go.Proofs.Ytnnnnlcpmocnfaa.Flds.fine {w : World} {B : Nat} {ad : Option Addr} {fs : List M.Fd} (h : Flds w B ad fs) : ∀ f ∈ fs, Fine f := by
  intro f hf
  obtain ⟨i, hi⟩ := List.getElem?_of_mem hf
  obtain ⟨g, off, _, _, hh⟩ := h.2 (List.ne_nil_of_mem hf)
  obtain ⟨a, b, c, l, hfit, _⟩ := hh i f hi
  exact ⟨a, b, c, l, hfit⟩
theorem Try.bytes39 : Try.prog.bytesOf 39 = 40 := by kernel_rfl
section
variable {H : Type} {enc : TypeId × Value → H} {w : World}
theorem open_fds_sized {v : Value} {d : DataW H} {p : List MemPlace} {base j : Nat} {ts : List TypeId} {ds : List (DataW H)} (hv : Value.okWide Try.prog w .any base 31 v) (h : DataW.Trod enc Try.prog w 0 (fun _ => true) true 31 v d p)
    (hsz : (DataW.weightsEach Try.prog ts ds).all (· ≤ reachBytes) = true) (ht : ts[j]? = some 31) (hd : ds[j]? = some d) :
    ∃ ad n cap fs, v = .slice ad n cap ∧ n = fs.length ∧ Flds w w.heap.size ad fs ∧ n ≤ 3518437208780 := by
  obtain ⟨ad, n, cap, fs, rfl, hn, hfl⟩ := open_fds hv h
  refine ⟨ad, n, cap, fs, rfl, hn, hfl, ?_⟩
  obtain ⟨fuel, hf⟩ := h
  rcases Deep.open_slice Try.underlying31 hf with ⟨hcs, _⟩ | ⟨a, len', cap', m, k, D, Pl, hcs, _, hl, hm, hmm, hx, hi⟩
  · simp [Value.cells] at hcs
    obtain ⟨_, rfl, _⟩ := hcs
    omega
  · simp [Value.cells] at hcs
    obtain ⟨_, rfl, _⟩ := hcs
    simp only [Prod.mk.injEq] at hx
    obtain ⟨rfl, _⟩ := hx
    have := sized_slice hsz ht hd Try.underlying31
    rw [Try.bytes39] at this
    simp only [List.length_map, List.length_range, reachBytes] at this
    omega
end

theorem lastVal_form (R : Option M.Fd) : ∃ A B C L t, lastVal R = .tuple #[.agg (fcells A B C L), .bool t] := by
  cases R with
  | none => exact ⟨0, 0, 0, [], false, rfl⟩
  | some f => exact ⟨f.num, f.wire, f.n, f.s, true, rfl⟩

set_option maxHeartbeats 8000000 in
theorem walk (w : World) (ad : Option Addr) (n cap : Nat) (num wb : Int) (fs : List M.Fd) (hn : n = fs.length) (hfl : Flds w w.heap.size ad fs) (hsz : n ≤ 3518437208780) (hw0 : 0 ≤ wb) (hw1 : wb ≤ 255) :
    Calls Try.prog 5 #[.slice ad n cap, .int .i64 num, .int .u8 wb] w fun e w' => e = .returned (.bool true) ∧ Below w.heap.size w w' := by
  obtain ⟨A, B, C, L, t, hv⟩ := lastVal_form (lastOf num wb.toNat fs)
  have hL : ∀ W, Below w.heap.size w W → Calls Try.prog 27 #[.slice ad n cap, .int .i64 num, .int .u8 wb] W fun e w' => e = .returned (.tuple #[.agg (fcells A B C L), .bool t]) ∧ Below W.heap.size W w' := fun W hb => by
    rw [← hv]; exact last_any W ad n cap num wb fs hn ((hfl.keep hb).mono hb.size) hw0 hw1
  have hM : ∀ W, Below w.heap.size w W → Calls Try.prog 28 #[.slice ad n cap, .int .i64 num, .int .u8 wb] W fun e w' => e = .returned (.tuple #[.agg (fcells A B C L), .bool t]) ∧ Below W.heap.size W w' := fun W hb => by
    rw [← hv]; exact rlast_any W ad n cap num wb fs hn ((hfl.keep hb).mono hb.size) hw0 hw1
  obtain ⟨X, hX⟩ : ∃ X, X = allOf num wb.toNat fs := ⟨_, rfl⟩
  have hXf : ∀ f ∈ X, Fine f := by rw [hX]; intro f hf; exact hfl.fine f (List.mem_filter.1 (show f ∈ fs.filter (pick num wb.toNat) from hf)).1
  have hXl : X.length ≤ 9223372036854775807 := by rw [hX]; have := allOf_len num wb.toNat fs; omega
  have hA : ∀ W, Below w.heap.size w W → Calls Try.prog 29 #[.slice ad n cap, .int .i64 num, .int .u8 wb] W fun e w' => ∃ ad2 cap2, e = .returned (.slice ad2 X.length cap2) ∧ Flds w' w'.heap.size ad2 X ∧ Below W.heap.size W w' := fun W hb =>
    (all_any W ad n cap num wb fs hn ((hfl.keep hb).mono hb.size) hsz hw0 hw1).mono fun e w' h => by
      obtain ⟨v, he, hrow, hb'⟩ := h
      rw [← hX] at hrow
      obtain ⟨ad2, cap2, rfl, hf2⟩ := hrow.flds hXf hXl
      exact ⟨ad2, cap2, he, hf2, hb'⟩
  have hB : ∀ W, Below w.heap.size w W → Calls Try.prog 30 #[.slice ad n cap, .int .i64 num, .int .u8 wb] W fun e w' => ∃ ad2 cap2, e = .returned (.slice ad2 X.length cap2) ∧ Flds w' w'.heap.size ad2 X ∧ Below W.heap.size W w' := fun W hb =>
    (rall_any W ad n cap num wb fs hn ((hfl.keep hb).mono hb.size) hsz hw0 hw1).mono fun e w' h => by
      obtain ⟨v, he, hrow, hb'⟩ := h
      rw [← hX] at hrow
      obtain ⟨ad2, cap2, rfl, hf2⟩ := hrow.flds hXf hXl
      exact ⟨ad2, cap2, he, hf2, hb'⟩
  have HL := Lib.hid hL
  have HM := Lib.hid hM
  have HA := Lib.hid hA
  have HB := Lib.hid hB
  clear hL hM hA hB hv hX hXf hfl hn hsz
  go_enter Try.func5, Try.ntmps5
  go_wp2_with fail
  refine (HL.out w (Below.refl _ _)).mono ?_
  rintro e w1 ⟨rfl, hb1⟩
  have Hb1 := Lib.hid hb1
  clear hb1
  go_wp2_with fail
  refine (HM.out _ (Hb1.out.alloc Hb1.out.size _)).mono ?_
  rintro e w2 ⟨rfl, hb2⟩
  have hx2 := (hb2.block w1.heap.size (by simp)).trans (blk_new w1 _)
  have Hb2 := Lib.hid ((Hb1.out.alloc Hb1.out.size _).trans (hb2.mono (by have := Hb1.out.size; simp; omega)))
  have hs2 : w1.heap.size < w2.heap.size := (Array.getElem?_eq_some_iff.1 hx2).1
  have Hx2 := Lib.hid hx2
  clear hb2 hx2
  go_wp2_with fail
  refine (lives_any _).mono ?_
  rintro e w3 ⟨rfl, hb3⟩
  have hx3 := (hb3.block w1.heap.size (by simp; omega)).trans (blk_alloc Hx2.out _)
  have hy3 := (hb3.block w2.heap.size (by simp)).trans (blk_new w2 _)
  obtain ⟨q0, q1, q2, q3⟩ := box4 hx3
  obtain ⟨r0, r1, r2, r3⟩ := box4 hy3
  have Hb3 := Lib.hid ((Hb2.out.alloc Hb2.out.size _).trans (hb3.mono (by have := Hb2.out.size; simp; omega)))
  clear hb3 hx3 hy3
  go_wp2_with fail
  refine (HA.out w3 Hb3.out).mono ?_
  rintro e w4 ⟨ad4, cap4, rfl, hf4, hb4⟩
  have Hb4 := Lib.hid (Hb3.out.trans (hb4.mono Hb3.out.size))
  have Hf4 := Lib.hid hf4
  clear hb4 hf4 q0 q1 q2 q3 r0 r1 r2 r3
  go_wp2_with fail
  refine (HB.out w4 Hb4.out).mono ?_
  rintro e w5 ⟨ad5, cap5, rfl, hf5, hb5⟩
  have hS := same_yes w5 ad4 ad5 cap4 cap5 X.length X rfl ((Hf4.out.keep hb5).mono hb5.size) hf5
  have HS := Lib.hid hS
  have Hb5 := Lib.hid (Hb4.out.trans (hb5.mono Hb4.out.size))
  clear hb5 hf5 hS
  go_wp2_with fail
  refine (HS.out).mono ?_
  rintro e w6 ⟨rfl, hb6⟩
  have Hb6 := Lib.hid (Hb5.out.trans (hb6.mono Hb5.out.size))
  clear hb6
  go_wp2
  go_ret
  exact ⟨rfl, Hb6.out⟩

theorem laidOut : laidOutB Try.prog = true := by kernel_rfl

set_option maxRecDepth 100000 in
theorem lifted (os : Os) (started : os.Started) (H : Type) (enc : TypeId × Value → H) :
    ReturnsInHanded {} Try.checked os 5 .any (Rows.wireFindsSpec.pre6 enc Try.prog Try.f5 Rows.wireFindsRow.domain false) (Rows.wireFindsSpec.post enc Try.prog Try.f5 false true false false) := by
  refine returnsInHanded_of_change_sized (C := Try.checked) own started (by kernel_rfl) Try.func5
    (ChangeSpec.witness6 (enc := enc) (C := Try.checked) false ⟨#[], #[.slice none 0 0, .int .i64 0, .int .u8 0], []⟩ 8 (by kernel_rfl) (by kernel_rfl) (by kernel_rfl) (by kernel_rfl)) ?_
  intro W base args ds gs before hval0 hW hcnd0 hsz0 hholds
  have hval : ∀ (j : Nat) t v, Try.f5.params[j]? = some t → args[j]? = some v → Value.okWide Try.prog W .any base t v := hval0
  have hsz : (DataW.weightsEach Try.prog (Try.f5.params.toList ++ Rows.wireFindsSpec.plain.varTypes Try.prog) (ds ++ gs)).all (· ≤ reachBytes) = true := hsz0
  have hW' := hW
  obtain ⟨p, q, hA0, hV, rfl, hfz, hnd⟩ := hW
  have hA : DataW.TrodAll enc Try.prog W 0 (fun _ => true) true Try.f5.params.toList args.toList ds p := hA0
  rw [Try.params5] at hA hval hsz
  obtain ⟨v0, vs0, d0, ds0, p0, q0, hargs, rfl, rfl, h0, r0⟩ := trodAll_cons hA
  obtain ⟨v1, vs1, d1, ds1, p1, q1, rfl, rfl, rfl, h1, r1⟩ := trodAll_cons r0
  obtain ⟨v2, vs2, d2, ds2, p2, q2, rfl, rfl, rfl, h2, r2⟩ := trodAll_cons r1
  obtain ⟨rfl, rfl, rfl⟩ := trodAll_nil r2
  obtain rfl : args = #[v0, v1, v2] := by cases args; simp_all
  obtain ⟨rfl, rfl⟩ := trodVars_none hV
  have k0 := h0
  have lt0 : ∀ x ∈ p0, x.block < W.heap.size := by obtain ⟨m, hm⟩ := k0; exact DataW.trod_lt m _ _ _ hm
  obtain ⟨a1, rfl, rfl, rfl, w1⟩ := open_int Try.underlying3 (hval 1 3 v1 rfl rfl) h1
  obtain ⟨a2, rfl, rfl, rfl, w2⟩ := open_int Try.underlying37 (hval 2 37 v2 rfl rfl) h2
  obtain ⟨ad, n, cap, fs, rfl, hn, hfl, hbulk⟩ := open_fds_sized (j := 0) (hval 0 31 v0 rfl rfl) h0 hsz rfl rfl
  have b2 := bounds_u8 w2
  clear hA0 hval0
  refine (walk W ad n cap a1 a2 fs hn hfl hbulk b2.1 b2.2).mono fun e W' ⟨he, bel⟩ => ?_
  subst he
  exact ⟨_, rfl, _, _, _, [], _, [], hW', trodAll_mk1 (shut_bool Try.underlying4 _), (trodAll_cons_mk (Below.trod laidOut (by kernel_rfl) (of_decide_eq_true (by kernel_rfl)) k0 bel lt0) (trodAll_cons_mk (shut_int Try.underlying3 w1) (trodAll_cons_mk (shut_int Try.underlying37 w2) trodAll_mk0))), rfl, bel.frame _, fun h => by cases h⟩

theorem over : Rows.wireFindsRow.holds Try.pinned (OpenSpec.ofChange Rows.wireFindsSpec) :=
  OpenClaim.holds_of_wide 5 Try.f5 rfl rfl rfl rfl rfl rfl rfl ⟨rfl, rfl, rfl, rfl, rfl⟩ rfl rfl rfl rfl rfl (by kernel_rfl) Try.func5 (by kernel_rfl)
    (of_decide_eq_true (by kernel_rfl)) (by unfold Func.isWrapper; rw [if_neg (by decide +kernel)]; exact ⟨rfl, rfl⟩)
    (fun os started H enc _ => lifted os started H enc)

theorem proved : Rows.WireFindsSaid := over
#print axioms proved
end Go.Proofs.Ytnnnnlcpmocnfaa.wireFinds
