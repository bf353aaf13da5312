/- The statement of the law DiskApart is proved: for every disk, every step and every name within the form's own reach, the law returns true, and each argument reads afterwards as it did; no condition of ours. -/
import Derived.Test.YtcefhcailhediaaRows
import Derived.Test.YtcefhcailhediaaMth
import Derived.Test.YtcefhcailhediaaOpn
namespace Go.Proofs.Ytcefhcailhediaa.diskApart
open Go.ChangeShapes Go.WideShapes Go.ChangeAt Go.RowKit
open Go.ChangeMaps (open_string shut_string)
set_option linter.unusedVariables false
set_option linter.unusedSimpArgs false
theorem own : ownKnob Try.prog.godebug = none := by kernel_rfl

theorem rdv_apart {d : D} {s : S} {b : ByteArray} (h : (doo d s).2 = 0) (hb : b ≠ s.name) : rdv (doo d s).1 b = rdv d b := by
  obtain ⟨hR, hk, h0, hd, he⟩ := doo_ok h
  rw [he]
  unfold rdv
  rw [upv_up (d := ⟨eff d.files s, false, dec d.fuse, dec d.fault⟩) (right_eff hR hk h0) (by simp), upv_up hR (by simp [hd]), if_pos rfl, if_pos rfl, found_apart hR hk h0 hb]

set_option maxHeartbeats 4000000 in
theorem walk (w : World) (ad : Option Addr) (n cap : Nat) (down : Bool) (fuse fault : Int) (fs : List F) (k : Int) (nm dt : ByteArray) (z : Int) (b : ByteArray) (h : DIn w ad n cap fuse fault fs)
    (hn : nm.size ≤ 9223372036854775807) (hd : dt.size ≤ 9223372036854775807) (hb : b.size ≤ 9223372036854775807) :
    Calls Try.prog 6 #[.agg (dcells (.slice ad n cap) down fuse fault), .agg (scells k nm dt z), .string b] w fun e w' => e = .returned (.bool true) ∧ Below w.heap.size w w' := by
  have hb0 : Below w.heap.size w ((w.alloc (.cells (dcells (.slice ad n cap) down fuse fault) 24)).alloc (.cells (scells k nm dt z) 27)) := ((Below.refl _ w).alloc (Nat.le_refl _) _).alloc (by simp) _
  have hx : ((w.alloc (.cells (dcells (.slice ad n cap) down fuse fault) 24)).alloc (.cells (scells k nm dt z) 27)).heap[w.heap.size]? = some (.cells (dcells (.slice ad n cap) down fuse fault) 24) := blk_alloc (blk_new w _) _
  have hy : ((w.alloc (.cells (dcells (.slice ad n cap) down fuse fault) 24)).alloc (.cells (scells k nm dt z) 27)).heap[w.heap.size + 1]? = some (.cells (scells k nm dt z) 27) := by
    have := blk_new (w.alloc (.cells (dcells (.slice ad n cap) down fuse fault) 24)) (.cells (scells k nm dt z) 27)
    simpa using this
  have Hb0 := Lib.hid hb0
  have Hx := Lib.hid hx
  have Hy := Lib.hid hy
  have H := Lib.hid h
  clear h hb0 hx hy
  by_cases hbn : b = nm
  · have hq := str_is hbn
    clear hbn
    go_enter Try.func6, Try.ntmps6
    go_wp2_with fail
    refine (lives_any _).mono ?_
    rintro e w1 ⟨rfl, hb1⟩
    obtain ⟨y0, y1, y2, y3⟩ := box4 ((hb1.block _ (Array.getElem?_eq_some_iff.1 Hy.out).1).trans Hy.out)
    have Hb1 := Lib.hid (Hb0.out.trans (hb1.mono Hb0.out.size))
    clear hb1
    go_wp2
    go_ret
    exact ⟨rfl, Hb1.out⟩
  · have hq := str_not hbn
    have hap := fun h0 => rdv_apart (d := ⟨fs, down, fuse, fault⟩) (s := ⟨k, nm, dt, z⟩) (b := b) h0 hbn
    have hdo := fun W hW => Do_any W ad n cap down fuse fault fs k nm dt z hW hn hd
    obtain ⟨R, hR⟩ : ∃ R, doo ⟨fs, down, fuse, fault⟩ ⟨k, nm, dt, z⟩ = R := ⟨_, rfl⟩
    rw [hR] at hap hdo
    have Hdo := Lib.hid hdo
    have hall := doo_all ⟨fs, down, fuse, fault⟩ ⟨k, nm, dt, z⟩ ⟨H.out.u0, H.out.u1⟩ ⟨H.out.f0, H.out.f1⟩
    rw [hR] at hall
    have hfitR : ∀ f ∈ R.1.files, Fit f := fun f hf => okF_fit (hall.1.ok f hf)
    have hbR : (-9223372036854775808 ≤ R.1.fuse ∧ R.1.fuse ≤ 9223372036854775807) ∧ -9223372036854775808 ≤ R.1.fault ∧ R.1.fault ≤ 9223372036854775807 := ⟨hall.2.1, hall.2.2⟩
    clear hall
    have HfR := Lib.hid hfitR
    have HbR := Lib.hid hbR
    obtain ⟨⟨fl', dn', fu', fa'⟩, code⟩ := R
    have Hap := Lib.hid hap
    obtain ⟨V, hV⟩ : ∃ V, rdv ⟨fs, down, fuse, fault⟩ b = V := ⟨_, rfl⟩
    have HV := Lib.hid hV
    obtain ⟨vs, vc⟩ := V
    clear hbn hap hdo hR hfitR hbR hV
    go_enter Try.func6, Try.ntmps6
    go_wp2_with fail
    refine (lives_any _).mono ?_
    rintro e w1 ⟨rfl, hb1⟩
    have hX1 := (hb1.block _ (Array.getElem?_eq_some_iff.1 Hx.out).1).trans Hx.out
    have hY1 := (hb1.block _ (Array.getElem?_eq_some_iff.1 Hy.out).1).trans Hy.out
    obtain ⟨x0, x1, x2, x3⟩ := box4 hX1
    obtain ⟨y0, y1, y2, y3⟩ := box4 hY1
    have HX1 := Lib.hid hX1
    have HY1 := Lib.hid hY1
    have Hb1 := Lib.hid (Hb0.out.trans (hb1.mono Hb0.out.size))
    clear hb1 hX1 hY1
    go_wp2_with fail
    refine (Hdo.out _ (H.out.under Hb1.out)).mono ?_
    rintro e w2 ⟨ad2, n2, cap2, rfl, hi, hb2, hf⟩
    by_cases hc : code = 0
    · subst hc
      have hal := (Below.refl w2.heap.size w2).alloc (Nat.le_refl _) (.cells (dcells (.slice ad2 n2 cap2) dn' fu' fa') 24)
      have HX3 := Lib.hid (show (w2.alloc (.cells (dcells (.slice ad2 n2 cap2) dn' fu' fa') 24)).heap[w.heap.size]? = some (.cells (dcells (.slice ad n cap) down fuse fault) 24) from blk_alloc ((hb2.block _ (Array.getElem?_eq_some_iff.1 HX1.out).1).trans HX1.out) _)
      have Hb2 := Lib.hid (Hb1.out.trans (hb2.mono Hb1.out.size))
      have Hb3 := Lib.hid (Hb2.out.trans (hal.mono Hb2.out.size))
      have HA := Lib.hid (blk_new w2 (.cells (dcells (.slice ad2 n2 cap2) dn' fu' fa') 24))
      have HI := Lib.hid (hi.under hal)
      obtain ⟨z0, z1, z2, z3⟩ := box4 HX3.out
      have hRd := Read_any (w2.alloc (.cells (dcells (.slice ad2 n2 cap2) dn' fu' fa') 24)) ad n cap down fuse fault fs b (H.out.under Hb3.out) hb
      rw [HV.out] at hRd
      have HRd := Lib.hid hRd
      clear hi hb2 hf x0 x1 x2 x3 y0 y1 y2 y3 hal hRd
      go_wp2_with fail
      refine (HRd.out).mono ?_
      rintro e w4 ⟨rfl, hb4⟩
      have hA4 := (hb4.block _ (Array.getElem?_eq_some_iff.1 HA.out).1).trans HA.out
      obtain ⟨v0, v1, v2, v3⟩ := box4 hA4
      have Hb4 := Lib.hid (Hb3.out.trans (hb4.mono Hb3.out.size))
      have hRd2 := Read_any w4 ad2 n2 cap2 dn' fu' fa' fl' b ⟨HI.out.under hb4, HfR.out, HbR.out.1.1, HbR.out.1.2, HbR.out.2.1, HbR.out.2.2⟩ hb
      rw [show rdv ⟨fl', dn', fu', fa'⟩ b = (vs, vc) from (Hap.out trivial).trans HV.out] at hRd2
      have HRd2 := Lib.hid hRd2
      clear hb4 hA4 hRd2
      go_wp2_with fail
      refine (HRd2.out).mono ?_
      rintro e w5 ⟨rfl, hb5⟩
      have Hb5 := Lib.hid (Hb4.out.trans (hb5.mono Hb4.out.size))
      have hvv := str_is (rfl : vs = vs)
      have hcc : (vc == vc) = true := by simp
      clear hb5
      go_wp2
      go_ret
      exact ⟨rfl, Hb5.out⟩
    · have hc' : (code == 0) = false := by simp [hc]
      have Hb2 := Lib.hid (Hb1.out.trans (hb2.mono Hb1.out.size))
      clear hi hb2 hf x0 x1 x2 x3 y0 y1 y2 y3
      go_wp2
      go_ret
      exact ⟨rfl, Hb2.out.alloc Hb2.out.size _⟩
theorem laidOut : laidOutB Try.prog = true := by kernel_rfl

set_option maxRecDepth 100000 in
theorem lifted (os : Os) (started : os.Started) (H : Type) (enc : TypeId × Value → H) :
    ReturnsInHanded {} Try.checked os 6 .any (Rows.diskApartSpec.pre6 enc Try.prog Try.f6 Rows.diskApartRow.domain false) (Rows.diskApartSpec.post enc Try.prog Try.f6 false true false false) := by
  refine returnsInHanded_of_change (C := Try.checked) own started (by kernel_rfl) Try.func6
    (ChangeSpec.witness6 (enc := enc) (C := Try.checked) false ⟨#[], #[.agg #[.slice none 0 0, .bool false, .int .i64 0, .int .i64 0], .agg #[.int .u8 0, .string ByteArray.empty, .string ByteArray.empty, .int .i64 0], .string ByteArray.empty], []⟩ 8 (by kernel_rfl) (by kernel_rfl) (by kernel_rfl) (by kernel_rfl)) ?_
  intro W base args ds gs before hval0 hW hcnd _
  have hval : ∀ (j : Nat) t v, Try.f6.params[j]? = some t → args[j]? = some v → Value.okWide Try.prog W .any base t v := hval0
  have hW' := hW
  obtain ⟨p, q, hA0, hV, rfl, hfz, hnd⟩ := hW
  have hA : DataW.TrodAll enc Try.prog W 0 (fun _ => true) true Try.f6.params.toList args.toList ds p := hA0
  rw [Try.params6] at hA hval
  obtain ⟨v0, vs0, d0, ds0, p0, q0, hargs, rfl, rfl, h0, r0⟩ := trodAll_cons hA
  obtain ⟨v1, vs1, d1, ds1, p1, q1, rfl, rfl, rfl, h1, r1⟩ := trodAll_cons r0
  obtain ⟨v2, vs2, d2, ds2, p2, q2, rfl, rfl, rfl, h2, r2⟩ := trodAll_cons r1
  obtain ⟨rfl, rfl, rfl⟩ := trodAll_nil r2
  obtain rfl : args = #[v0, v1, v2] := by cases args; simp_all
  obtain ⟨rfl, rfl⟩ := trodVars_none hV
  have k0 := h0
  have k1 := h1
  have k2 := h2
  have lt0 : ∀ x ∈ p0, x.block < W.heap.size := by obtain ⟨m, hm⟩ := k0; exact DataW.trod_lt m _ _ _ hm
  have lt1 : ∀ x ∈ p1, x.block < W.heap.size := by obtain ⟨m, hm⟩ := k1; exact DataW.trod_lt m _ _ _ hm
  obtain ⟨ad, n, cap, down, fuse, fault, fs, rfl, hD⟩ := open_disk (hval 0 24 v0 rfl rfl) h0
  obtain ⟨k, nm, dt, z, rfl, hn, hd, _, _, _, _⟩ := open_step (hval 1 27 v1 rfl rfl) h1
  obtain ⟨b, rfl, rfl, rfl, wb⟩ := open_string Try.underlying9 (hval 2 9 v2 rfl rfl) h2
  clear hA0 hval0
  refine (walk W ad n cap down fuse fault fs k nm dt z b hD hn hd (by simpa [maxLen] using wb)).mono fun e W' ⟨he, bel⟩ => ?_
  subst he
  exact ⟨_, rfl, _, _, _, [], _, [], hW', trodAll_mk1 (shut_bool Try.underlying4 _), (trodAll_cons_mk (Below.trod laidOut (by kernel_rfl) (of_decide_eq_true (by kernel_rfl)) k0 bel lt0) (trodAll_cons_mk (Below.trod laidOut (by kernel_rfl) (of_decide_eq_true (by kernel_rfl)) k1 bel lt1) (trodAll_cons_mk (shut_string Try.underlying9 wb) trodAll_mk0))), rfl, bel.frame _, fun h => by cases h⟩

theorem over : Rows.diskApartRow.holds Try.pinned (OpenSpec.ofChange Rows.diskApartSpec) :=
  OpenClaim.holds_of_wide 6 Try.f6 rfl rfl rfl rfl rfl rfl rfl ⟨rfl, rfl, rfl, rfl, rfl⟩ rfl rfl rfl rfl rfl (by kernel_rfl) Try.func6 (by kernel_rfl)
    (of_decide_eq_true (by kernel_rfl)) (by unfold Func.isWrapper; rw [if_neg (by decide +kernel)]; exact ⟨rfl, rfl⟩)
    (fun os started H enc _ => lifted os started H enc)

theorem proved : Rows.DiskApartSaid := over
#print axioms proved
end Go.Proofs.Ytcefhcailhediaa.diskApart
