/- The statement of the law WireMessages is proved: for every slice of fields and every text within the form's own reach, the law returns true, and each argument reads afterwards as it did; no condition of ours. -/
import Derived.Test.YtnnnnlcpmocnfaaRows
import Derived.Test.YtnnnnlcpmocnfaaOnto
import Derived.Test.YtnnnnlcpmocnfaaLive
import Derived.Test.YtnnnnlcpmocnfaaSame
import Derived.Test.YtnnnnlcpmocnfaaOpen
import Derived.Test.YtnnnnlcpmocnfaaRread
import Derived.Test.YtnnnnlcpmocnfaaRwrite
import Derived.Test.YtnnnnlcpmocnfaaBack
import Derived.Deep.RegionHeld3
import Derived.SizedLaws
import Derived.ProofKit
import Derived.OpenShut
import Derived.ShutString
namespace Go.Proofs.Ytnnnnlcpmocnfaa.wireMessages
open Go.ChangeShapes Go.WideShapes Go.ChangeAt Go.RowKit
open Go.ChangeMaps (open_string shut_string)
open Go.Proofs.Ytnnnnlcpmocnfaa.wireFinds (open_fds_sized)
set_option linter.unusedVariables false
set_option linter.unusedSimpArgs false

theorem own : ownKnob Try.prog.godebug = none := by kernel_rfl

theorem run_app_fs2 {w : World} (ty : TypeId) (base : Nat) (v : Value) (xs : List M.Fd) (hown : FRow w base v xs) (ad : Option Addr) (cap : Nat) (fs : List M.Fd) (hfl : Flds w w.heap.size ad fs)
    (hlen : xs.length + fs.length ≤ 3518437208782) (hbase : base ≤ w.heap.size) :
    ∃ v' w', (Builtin.append_ #[31, 31] ty #[v, .slice ad fs.length cap]).run Try.prog w = .ok v' w' ∧ FRow w' base v' (xs ++ fs) ∧ Grew w v w' v' := by
  obtain ⟨i0, hi, hz0, hz1, hz2⟩ := info_parts Try.info39
  cases ad with
  | none =>
    have hx : fs = [] := by
      rcases Classical.em (fs = []) with h | h
      · exact h
      · obtain ⟨g, off, e, _⟩ := hfl.2 h; cases e
    subst hx
    refine ⟨v, w, ?_, by simpa using hown, Grew.refl _ _⟩
    rcases hown.2 with ⟨rfl, hn⟩ | ⟨g, cap', cur, rfl, _, _, hnc, _⟩
    · simp [Builtin.append_, run_underlying Try.underlying31, sizeOf, typeInfo, hi, Builtin.lenOf, Builtin.firstCells]
    · simp [Builtin.append_, run_underlying Try.underlying31, sizeOf, typeInfo, hi, Builtin.lenOf, Builtin.firstCells, hnc, storeCells]
  | some a =>
    have hcells : ∀ j u, (fs.flatMap fc)[j]? = some u → w.cell? (a.add j) = some u := by
      intro j u hu
      obtain ⟨f, hf, _⟩ := fc_div fs j u hu
      obtain ⟨g, off, e, _⟩ := hfl.2 (List.ne_nil_of_mem (List.mem_of_getElem? hf))
      injection e with e
      subst e
      exact hfl.cells j u hu
    obtain ⟨v', w', hr, h2, h3, _, h5⟩ := run_append_own_at (P := Try.prog) w base 31 ty 39 i0 _ 4 40 Try.underlying31 hi hz0 hz1 hz2 rfl (by decide) v xs.length (xs.flatMap fc) hown a fs.length cap (fs.flatMap fc) (fc_len fs) hcells
      (fc_one fs) (by unfold maxLen; omega) (by omega) hbase
    refine ⟨v', w', hr, ?_, (Grew.refl w v).step h3 h5⟩
    unfold FRow
    rw [List.length_append, List.flatMap_append]
    exact h2

theorem wp_app_fs2 {w : World} {ops : Array Oper} {rest : List Oper} {o : Oper} {a : Act} {Q : Exit → Act → World → Prop} (hgd : Region.wanted o (yielded ops a.tmps) = true) (s x : Operand)
    (ho : o.op = .call { callee := .builtin .append, args := #[s, x], argTypes := #[31, 31] }) (base : Nat) (v : Value) (xs : List M.Fd) (hs : a.eval s = v) (hown : FRow w base v xs)
    (ad : Option Addr) (cap n : Nat) (fs : List M.Fd) (hx : a.eval x = .slice ad n cap) (hn : n = fs.length) (hfl : Flds w w.heap.size ad fs) (hlen : xs.length + fs.length ≤ 3518437208782) (hbase : base ≤ w.heap.size)
    (h : ∀ v' w', FRow w' base v' (xs ++ fs) → Grew w v w' v' → wpList Try.prog ops Q rest (a.put o.dst v') w') : wpList Try.prog ops Q (o :: rest) a w := by
  subst hn
  refine wpList_step fun K hK => ?_
  rw [if_pos hgd]
  obtain ⟨v', w', hr, h2, h3⟩ := run_app_fs2 o.type base v xs hown ad cap fs hfl hlen hbase
  unfold Oper.wp execOp
  simp only [ho, resolve, invoke, builtin, Sem.run_bind, Sem.run_pure, Result.andThen_ok, List.map_toArray, List.map_cons, List.map_nil, hs, hx, hr]
  exact hK _ _ (h v' w' h2 h3)

/-- what both Reads answer, as their caller meets it -/
def Met (K : Nat) (s : List UInt8) (gs : List M.Fd) (X : Int) : Prop := ∀ W, Calls Try.prog K #[.string ⟨s.toArray⟩] W fun e w' => ∃ ad cap, e = .returned (.tuple #[.slice ad gs.length cap, .int .i64 X]) ∧ Flds w' w'.heap.size ad gs ∧ Below W.heap.size W w'
theorem met_of {K : Nat} {s : List UInt8} (h : ∀ W, Calls Try.prog K #[.string ⟨s.toArray⟩] W (ReadPost s W)) : Met K s (match M.read s with | .error _ => [] | .ok gs => gs) (match M.read s with | .error x => (x : Int) | .ok _ => 0) := by
  intro W
  refine (h W).mono fun e w' hp => ?_
  obtain ⟨hb, hp⟩ := hp
  cases hr : M.read s with
  | error x =>
    rw [hr] at hp
    exact ⟨none, 0, hp, ⟨by simp, fun h => absurd rfl h⟩, hb⟩
  | ok gs =>
    rw [hr] at hp
    obtain ⟨v, he, hrow, hfine, hl⟩ := hp
    obtain ⟨ad, cap, rfl, hf⟩ := hrow.flds hfine (by omega)
    exact ⟨ad, cap, he, hf, hb⟩

theorem box_step {W0 X w2 : World} {g : Nat} {x0 x1 x2 x3 : Value} (hg : g < W0.heap.size) (hb : Below X.heap.size X w2)
    (h : (X.cell? ⟨g, 0, none⟩ = some x0 ∧ X.cell? ⟨g, 1, none⟩ = some x1 ∧ X.cell? ⟨g, 2, none⟩ = some x2 ∧ X.cell? ⟨g, 3, none⟩ = some x3) ∧ Below W0.heap.size W0 X) :
    (w2.cell? ⟨g, 0, none⟩ = some x0 ∧ w2.cell? ⟨g, 1, none⟩ = some x1 ∧ w2.cell? ⟨g, 2, none⟩ = some x2 ∧ w2.cell? ⟨g, 3, none⟩ = some x3) ∧ Below W0.heap.size W0 w2 := by
  obtain ⟨⟨h0, h1, h2, h3⟩, hb0⟩ := h
  have hx : g < X.heap.size := Nat.lt_of_lt_of_le hg hb0.size
  exact ⟨⟨(hb.cell (p := ⟨g, 0, none⟩) hx).trans h0, (hb.cell (p := ⟨g, 1, none⟩) hx).trans h1, (hb.cell (p := ⟨g, 2, none⟩) hx).trans h2, (hb.cell (p := ⟨g, 3, none⟩) hx).trans h3⟩, hb0.trans (hb.mono hb0.size)⟩

theorem box_fin {P : Prop} {w W0 w2 : World} (h0 : Below w.heap.size w W0) (h : P ∧ Below W0.heap.size W0 w2) : Below w.heap.size w w2 := h0.trans (h.2.mono h0.size)

theorem sizes {f : M.Fd} {a b c : Int} {l : List UInt8} (hfit : Fit f a b c l) : ∃ z : Int, (∀ W, Calls Try.prog 25 #[.agg (fcells a b c l)] W fun e w' => e = .returned (.int .i64 z) ∧ Below W.heap.size W w') ∧ (∀ W, Calls Try.prog 26 #[.agg (fcells a b c l)] W fun e w' => e = .returned (.int .i64 z) ∧ Below W.heap.size W w') := by
  cases hm : M.may ⟨a, b.toNat, c.toNat, l⟩ with
  | false => exact ⟨0, fun W => size_no a b c l W hfit.b0 hfit.b1 hfit.c0 hfit.hl hm, fun W => rsize_no a b c l W hfit.b0 hfit.b1 hfit.c0 hfit.hl hm⟩
  | true => exact ⟨_, fun W => size_yes a b c l W hfit.b0 hfit.b1 hfit.c0 hfit.c1 hfit.hl hm, fun W => rsize_yes a b c l W hfit.b0 hfit.b1 hfit.c0 hfit.c1 hfit.hl hm⟩

set_option maxHeartbeats 16000000 in
theorem walk (w : World) (ad : Option Addr) (n cap : Nat) (fs : List M.Fd) (s : List UInt8) (hn : n = fs.length) (hfl : Flds w w.heap.size ad fs) (hsz : n ≤ 3518437208780) (hs : s.length ≤ 9223372036854775807) :
    Calls Try.prog 4 #[.slice ad n cap, .string ⟨s.toArray⟩] w fun e w' => e = .returned (.bool true) ∧ Below w.heap.size w w' := by
  have hfine := hfl.fine
  obtain ⟨E, hE⟩ : ∃ E : Int, E = ((M.wr fs).1 : Int) := ⟨_, rfl⟩
  obtain ⟨O, hO⟩ : ∃ O, O = (M.wr fs).2 := ⟨_, rfl⟩
  have hW : ∀ W ad2 cap2, Flds W W.heap.size ad2 fs → Calls Try.prog 20 #[.slice ad2 n cap2] W fun e w' => e = .returned (.tuple #[.string ⟨O.toArray⟩, .int .i64 E]) ∧ Below W.heap.size W w' := fun W ad2 cap2 h => by
    rw [hE, hO]; exact wireBack.write_any W ad2 cap2 n fs hn h
  have hV : ∀ W, Below w.heap.size w W → Calls Try.prog 21 #[.slice ad n cap] W fun e w' => e = .returned (.tuple #[.string ⟨O.toArray⟩, .int .i64 E]) ∧ Below W.heap.size W w' := fun W hb => by
    rw [hE, hO]; exact rwrite_any W ad cap n fs hn ((hfl.keep hb).mono hb.size)
  have hR1 := met_of (s := s) (K := 22) fun W => read_any s W hs
  have hR2 := met_of (s := s) (K := 23) fun W => rread_any s W hs
  generalize (match M.read s with | .error _ => [] | .ok gs => gs) = gs at hR1 hR2
  generalize (match M.read s with | .error x => (x : Int) | .ok _ => 0) = X at hR1 hR2
  have HW := Lib.hid hW
  have HV := Lib.hid hV
  have HR1 := Lib.hid hR1
  have HR2 := Lib.hid hR2
  have Hfl := Lib.hid hfl
  have Hn := Lib.hid hn
  have Hfine := Lib.hid hfine
  have Hl := Lib.hid (show ([] : List M.Fd).length + fs.length ≤ 3518437208782 by rw [← hn]; simp; omega)
  clear hW hV hR1 hR2 hfl hn hfine hE hO
  have Hrow0 := Lib.hid (show FRow (w.alloc (.cells #[] 39)) w.heap.size (.slice (some ⟨w.heap.size, 0, none⟩) 0 0) [] from World.ownsRow_made w #[] 0 (Nat.le_refl _) (by decide) rfl)
  have Hb0 := Lib.hid (((Below.refl _ w).alloc (Nat.le_refl _) (.cells #[] 39)))
  have Hfa := Lib.hid ((Hfl.out.keep Hb0.out).mono Hb0.out.size)
  go_enter Try.func4, Try.ntmps4
  go_wp2_with (at_builtin; refine wp_app_fs2 (by simp [Region.wanted, yielded]) (.tmp 16) (.tmp 17) rfl w.heap.size _ [] rfl Hrow0.out ad cap n fs rfl Hn.out Hfa.out Hl.out (by simp) ?_)
  intro v1 w1 hrow1' hgr1
  have hrow1 : FRow w1 w.heap.size v1 fs := hrow1'
  obtain ⟨ad1, cap1, rfl, hf1⟩ := hrow1.flds Hfine.out (by have := Hn.out; omega)
  rw [← Hn.out]
  have Hb1 := Lib.hid (Hb0.out.trans (hgr1.below (by simp) (fun k hk => (Hrow0.out.lt k hk).1)))
  have Hf1 := Lib.hid hf1
  clear hrow1 hrow1' hgr1 hf1
  go_wp2_with fail
  refine (HW.out w1 ad1 cap1 Hf1.out).mono ?_
  rintro e w2 ⟨rfl, hb2⟩
  have Hf2 := Lib.hid ((Hf1.out.keep hb2).mono hb2.size)
  have Hb2 := Lib.hid (Hb1.out.trans (hb2.mono Hb1.out.size))
  clear hb2
  go_wp2_with fail
  refine (HV.out w2 Hb2.out).mono ?_
  rintro e w3 ⟨rfl, hb3⟩
  have Hf3 := Lib.hid ((Hf2.out.keep hb3).mono hb3.size)
  have Hb3 := Lib.hid (Hb2.out.trans (hb3.mono Hb2.out.size))
  clear hb3
  go_wp2_with fail
  refine (HR1.out w3).mono ?_
  rintro e w4 ⟨ad4, cap4, rfl, hc4, hb4⟩
  have Hf4 := Lib.hid ((Hf3.out.keep hb4).mono hb4.size)
  have Hb4 := Lib.hid (Hb3.out.trans (hb4.mono Hb3.out.size))
  have Hc4 := Lib.hid hc4
  clear hb4 hc4
  go_wp2_with fail
  refine (HR2.out w4).mono ?_
  rintro e w5 ⟨ad5, cap5, rfl, hc5, hb5⟩
  have Hf5 := Lib.hid ((Hf4.out.keep hb5).mono hb5.size)
  have Hb5 := Lib.hid (Hb4.out.trans (hb5.mono Hb4.out.size))
  have Hs5 := Lib.hid (same_yes w5 ad4 ad5 cap4 cap5 gs.length gs rfl ((Hc4.out.keep hb5).mono hb5.size) hc5)
  clear hb5 hc5
  go_wp2_with fail
  refine (Hs5.out).mono ?_
  rintro e w6 ⟨rfl, hb6⟩
  have Hb6 := Lib.hid (Hb5.out.trans (hb6.mono Hb5.out.size))
  have Hs6 := Lib.hid (same_yes w6 ad1 ad cap1 cap n fs Hn.out ((Hf5.out.keep hb6).mono hb6.size) ((Hfl.out.keep Hb6.out).mono Hb6.out.size))
  clear hb6
  go_wp2_with fail
  refine (Hs6.out).mono ?_
  rintro e w7 ⟨rfl, hb7⟩
  have Hb7 := Lib.hid (Hb6.out.trans (hb7.mono Hb6.out.size))
  clear hb7
  go_wp2
  go_loopw [66] (fun i wr => ∃ (j : Nat), i = .int .i64 (j : Int) ∧ j ≤ n ∧ Below w.heap.size w wr) (fun i _ => n - (intOf i).toNat)
  case atStart => exact ⟨0, rfl, by omega, Hb7.out⟩
  case round =>
    obtain ⟨j, rfl, hj, hbel⟩ := hrel
    have Hbel := Lib.hid hbel
    clear hbel
    by_cases hlt : j < n
    · have hne : fs ≠ [] := by rintro rfl; have := Hn.out; simp at this; omega
      obtain ⟨g, off, rfl, hg, hi⟩ := (Hfl.out.keep Hbel.out).2 hne
      obtain ⟨f, hf⟩ : ∃ f, fs[j]? = some f := ⟨fs[j]'(by have := Hn.out; omega), by simp⟩
      obtain ⟨a, b, c, l, hfit, q⟩ := hi j f hf
      obtain ⟨q0, q1, q2, q3⟩ := q
      obtain ⟨z, hz1, hz2⟩ := sizes hfit
      have Hz1 := Lib.hid hz1
      have Hz2 := Lib.hid hz2
      have Hbb := Lib.hid (Hbel.out.alloc Hbel.out.size (.cells (fcells a b c l) 39))
      have Hbx := Lib.hid (box4 (blk_new wr (.cells (fcells a b c l) 39)))
      have hgs : wr.heap.size < (wr.alloc (.cells (fcells a b c l) 39)).heap.size := by simp
      have Hgs := Lib.hid hgs
      clear hz1 hz2 hfit hf hi hne hg hgs
      go_wp2
      go_region_held3 (fun w' => (w'.cell? ⟨wr.heap.size, 0, none⟩ = some (.int .i64 a) ∧ w'.cell? ⟨wr.heap.size, 1, none⟩ = some (.int .u8 b) ∧ w'.cell? ⟨wr.heap.size, 2, none⟩ = some (.int .u64 c) ∧ w'.cell? ⟨wr.heap.size, 3, none⟩ = some (.string ⟨l.toArray⟩)) ∧ Below (wr.alloc (.cells (fcells a b c l) 39)).heap.size (wr.alloc (.cells (fcells a b c l) 39)) w')
        (first | exact ⟨Hbx.out, (Below.refl _ _).drew⟩ | exact box_step Hgs.out (by assumption) (by assumption))
        (first | (go_at_call 25; refine (Hz1.out _).mono ?_; rintro e w8 ⟨rfl, hb8⟩) | (go_at_call 26; refine (Hz2.out _).mono ?_; rintro e w8 ⟨rfl, hb8⟩))
      all_goals
        have Hfin := Lib.hid (show Below w.heap.size w w8 from box_fin Hbb.out (by assumption))
        go_wp2
        go_roundw
        case rel => exact ⟨j + 1, by go_num, by omega, Hfin.out⟩
        case measure => simp [intOf]; omega
    · go_wp2_with fail
      refine (lives_any wr).mono ?_
      rintro e w8 ⟨rfl, hb8⟩
      have Hb8 := Lib.hid (Hbel.out.trans (hb8.mono Hbel.out.size))
      clear hb8
      go_wp2
      go_ret
      exact ⟨rfl, Hb8.out⟩

theorem laidOut : laidOutB Try.prog = true := by kernel_rfl

set_option maxRecDepth 100000 in
theorem lifted (os : Os) (started : os.Started) (H : Type) (enc : TypeId × Value → H) :
    ReturnsInHanded {} Try.checked os 4 .any (Rows.wireMessagesSpec.pre6 enc Try.prog Try.f4 Rows.wireMessagesRow.domain false) (Rows.wireMessagesSpec.post enc Try.prog Try.f4 false true false false) := by
  refine returnsInHanded_of_change_sized (C := Try.checked) own started (by kernel_rfl) Try.func4
    (ChangeSpec.witness6 (enc := enc) (C := Try.checked) false ⟨#[], #[.slice none 0 0, .string ByteArray.empty], []⟩ 8 (by kernel_rfl) (by kernel_rfl) (by kernel_rfl) (by kernel_rfl)) ?_
  intro W base args ds gs before hval0 hW hcnd0 hsz0 hholds
  have hval : ∀ (j : Nat) t v, Try.f4.params[j]? = some t → args[j]? = some v → Value.okWide Try.prog W .any base t v := hval0
  have hsz : (DataW.weightsEach Try.prog (Try.f4.params.toList ++ Rows.wireMessagesSpec.plain.varTypes Try.prog) (ds ++ gs)).all (· ≤ reachBytes) = true := hsz0
  have hW' := hW
  obtain ⟨p, q, hA0, hV, rfl, hfz, hnd⟩ := hW
  have hA : DataW.TrodAll enc Try.prog W 0 (fun _ => true) true Try.f4.params.toList args.toList ds p := hA0
  rw [Try.params4] at hA hval hsz
  obtain ⟨v0, vs0, d0, ds0, p0, q0, hargs, rfl, rfl, h0, r0⟩ := trodAll_cons hA
  obtain ⟨v1, vs1, d1, ds1, p1, q1, rfl, rfl, rfl, h1, r1⟩ := trodAll_cons r0
  obtain ⟨rfl, rfl, rfl⟩ := trodAll_nil r1
  obtain rfl : args = #[v0, v1] := by cases args; simp_all
  obtain ⟨rfl, rfl⟩ := trodVars_none hV
  have k0 := h0
  have lt0 : ∀ x ∈ p0, x.block < W.heap.size := by obtain ⟨m, hm⟩ := k0; exact DataW.trod_lt m _ _ _ hm
  obtain ⟨a2, rfl, rfl, rfl, w2⟩ := open_string Try.underlying9 (hval 1 9 v1 rfl rfl) h1
  obtain ⟨ad, n, cap, fs, rfl, hn, hfl, hbulk⟩ := open_fds_sized (j := 0) (hval 0 31 v0 rfl rfl) h0 hsz rfl rfl
  have hlen : a2.data.toList.length ≤ reachBytes := sized_string hsz (j := 1) (t := 9) rfl rfl
  clear hA0 hval0
  obtain ⟨l, rfl⟩ : ∃ l : List UInt8, a2 = ⟨l.toArray⟩ := ⟨a2.data.toList, by cases a2; simp⟩
  have hlen' : l.length ≤ 140737488351232 := by simpa [reachBytes] using hlen
  refine (walk W ad n cap fs l hn hfl hbulk (by omega)).mono fun e W' ⟨he, bel⟩ => ?_
  subst he
  exact ⟨_, rfl, _, _, _, [], _, [], hW', trodAll_mk1 (shut_bool Try.underlying4 _), (trodAll_cons_mk (Below.trod laidOut (by kernel_rfl) (of_decide_eq_true (by kernel_rfl)) k0 bel lt0) (trodAll_cons_mk (shut_string Try.underlying9 w2) trodAll_mk0)), rfl, bel.frame _, fun h => by cases h⟩

theorem over : Rows.wireMessagesRow.holds Try.pinned (OpenSpec.ofChange Rows.wireMessagesSpec) :=
  OpenClaim.holds_of_wide 4 Try.f4 rfl rfl rfl rfl rfl rfl rfl ⟨rfl, rfl, rfl, rfl, rfl⟩ rfl rfl rfl rfl rfl (by kernel_rfl) Try.func4 (by kernel_rfl)
    (of_decide_eq_true (by kernel_rfl)) (by unfold Func.isWrapper; rw [if_neg (by decide +kernel)]; exact ⟨rfl, rfl⟩)
    (fun os started H enc _ => lifted os started H enc)

theorem proved : Rows.WireMessagesSaid := over
#print axioms proved
end Go.Proofs.Ytnnnnlcpmocnfaa.wireMessages
