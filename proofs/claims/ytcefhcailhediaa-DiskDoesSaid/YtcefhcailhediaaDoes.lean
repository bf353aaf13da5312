/- The statement of the law DiskDoes is proved: for every disk, every step, every name and every list of numbers within the form's own reach, the law returns true, and each argument reads afterwards as it did; no condition of ours. -/
import Derived.Test.YtcefhcailhediaaRows
import Derived.Test.YtcefhcailhediaaMth2
import Derived.Test.YtcefhcailhediaaOpn
import Derived.Test.YtcefhcailhediaaSam
import Derived.Test.YtcefhcailhediaaWt
import Derived.Test.YtcefhcailhediaaDca
import Derived.Test.YtcefhcailhediaaCpy2
import Derived.Test.YtcefhcailhediaaNam
import Derived.Test.YtcefhcailhediaaDcr
import Derived.Test.YtcefhcailhediaaDrd
import Derived.Test.YtcefhcailhediaaDck
namespace Go.Proofs.Ytcefhcailhediaa.diskDoes
open Go.ChangeShapes Go.WideShapes Go.ChangeAt Go.RowKit
open Go.ChangeMaps (open_string shut_string)
set_option linter.unusedVariables false
set_option linter.unusedSimpArgs false
attribute [local go_sem] run_store_func run_store_nilf
theorem own : ownKnob Try.prog.godebug = none := by kernel_rfl

theorem crv_len (d : D) (ks : List Int) : (crv d ks).1.files.length ≤ 64 := by
  unfold crv
  split
  · rename_i h; simp only [crashL_len]; exact h.1
  · exact Nat.zero_le _
/-- Check of both, by one number -/
theorem checks (fs : List F) : ∃ c : Int,
    (∀ (w : World) (ad : Option Addr) (cap n : Nat) (down : Bool) (fuse fault : Int), DIn w ad n cap fuse fault fs → Calls Try.prog 22 #[.agg (dcells (.slice ad n cap) down fuse fault)] w fun e w' => e = .returned (.int .i64 c) ∧ Below w.heap.size w w') ∧
    (∀ (w : World) (ad : Option Addr) (cap n : Nat) (down : Bool) (fuse fault : Int), DIn w ad n cap fuse fault fs → Calls Try.prog 23 #[.agg (dcells (.slice ad n cap) down fuse fault)] w fun e w' => e = .returned (.int .i64 c) ∧ Below w.heap.size w w') := by
  by_cases h : Right fs
  · exact ⟨0, fun w ad cap n down fuse fault hD => check_ok w ad cap n down fuse fault fs hD.i.1 hD.i.2.2.2 h, fun w ad cap n down fuse fault hD => dcheck_ok w ad cap n down fuse fault fs hD.i h⟩
  · exact ⟨6, fun w ad cap n down fuse fault hD => check_no w ad cap n down fuse fault fs hD.i.1 hD.i.2.2.2 hD.fit h, fun w ad cap n down fuse fault hD => dcheck_no w ad cap n down fuse fault fs hD.i hD.fit h⟩
/-- what the walk carries -/
structure Bx (w W : World) (ad : Option Addr) (n cap : Nat) (down : Bool) (fuse fault : Int) (fs : List F) (S : Obj) (adk : Option Addr) (ks : List Int) : Prop where
  d : Var W w.heap.size ad n cap down fuse fault fs
  s : W.heap[w.heap.size + 1]? = some S
  k : Ints W W.heap.size adk ks
  b : Below w.heap.size w W
theorem Bx.under {w W W' : World} {ad : Option Addr} {n cap : Nat} {down : Bool} {fuse fault : Int} {fs : List F} {S : Obj} {adk : Option Addr} {ks : List Int}
    (h : Bx w W ad n cap down fuse fault fs S adk ks) (hb : Below W.heap.size W W') : Bx w W' ad n cap down fuse fault fs S adk ks :=
  ⟨h.d.under hb, (hb.block _ (Array.getElem?_eq_some_iff.1 h.s).1).trans h.s, (h.k.keep hb).mono hb.size, h.b.trans (hb.mono h.b.size)⟩
theorem strs_under {w w' : World} {ad : Option Addr} {ss : List ByteArray} (h : Strs w w.heap.size ad ss) (hb : Below w.heap.size w w') : Strs w' w'.heap.size ad ss := fun hne => by
  obtain ⟨g, off, e, hg, hc⟩ := (h.keep hb) hne
  exact ⟨g, off, e, Nat.lt_of_lt_of_le hg hb.size, hc⟩

set_option maxHeartbeats 16000000 in
set_option maxRecDepth 100000 in
theorem walk (w : World) (ad : Option Addr) (n cap : Nat) (down : Bool) (fuse fault : Int) (fs : List F) (k : Int) (nm dt : ByteArray) (z : Int) (b : ByteArray) (adk : Option Addr) (nk capk : Nat) (ks : List Int) (h : DIn w ad n cap fuse fault fs) (h40 : n * 40 ≤ 140737488355328)
    (hn : nm.size ≤ 9223372036854775807) (hd : dt.size ≤ 9223372036854775807) (hz0 : -9223372036854775808 ≤ z) (hz1 : z ≤ 9223372036854775807) (hbs : b.size ≤ 9223372036854775807) (hks : Ints w w.heap.size adk ks) (hnk : nk = ks.length) (hnk63 : nk ≤ 9223372036854775807) :
    Calls Try.prog 3 #[.agg (dcells (.slice ad n cap) down fuse fault), .agg (scells k nm dt z), .string b, .slice adk nk capk] w fun e w' => e = .returned (.bool true) ∧ Below w.heap.size w w' := by
  obtain ⟨W0, hW0⟩ : ∃ W, W = (w.alloc (.cells (dcells (.slice ad n cap) down fuse fault) 24)).alloc (.cells (scells k nm dt z) 27) := ⟨_, rfl⟩
  have hb0 : Below w.heap.size w W0 := by rw [hW0]; exact ((Below.refl _ w).alloc (Nat.le_refl _) _).alloc (by simp) _
  have hx : W0.heap[w.heap.size]? = some (.cells (dcells (.slice ad n cap) down fuse fault) 24) := by rw [hW0]; exact blk_alloc (blk_new w _) _
  have hy : W0.heap[w.heap.size + 1]? = some (.cells (scells k nm dt z) 27) := by
    have := blk_new (w.alloc (.cells (dcells (.slice ad n cap) down fuse fault) 24)) (.cells (scells k nm dt z) 27)
    rw [hW0]; simpa using this
  have HX := Lib.hid (show Bx w W0 ad n cap down fuse fault fs (.cells (scells k nm dt z) 27) adk ks from ⟨⟨hx, (h.under hb0).i⟩, hy, (hks.keep hb0).mono hb0.size, hb0⟩)
  have Hd : ∀ {W : World} {ad : Option Addr} {n cap : Nat}, Inp W W.heap.size ad n cap fs → Hid (DIn W ad n cap fuse fault fs) := fun hi => Lib.hid ⟨hi, h.fit, h.u0, h.u1, h.f0, h.f1⟩
  have Hnk := Lib.hid hnk
  have hn63 : n ≤ 9223372036854775807 := by omega
  obtain ⟨⟨⟨gs, dn, fu, fa⟩, code⟩, hdo⟩ : ∃ r, doo ⟨fs, down, fuse, fault⟩ ⟨k, nm, dt, z⟩ = r := ⟨_, rfl⟩
  have hall := doo_all ⟨fs, down, fuse, fault⟩ ⟨k, nm, dt, z⟩ ⟨h.u0, h.u1⟩ ⟨h.f0, h.f1⟩
  rw [hdo] at hall
  have Hgl := Lib.hid hall.1.1
  have Hdo := Lib.hid hdo
  obtain ⟨⟨rb, rc⟩, hrd⟩ : ∃ r, rdv ⟨fs, down, fuse, fault⟩ b = r := ⟨_, rfl⟩
  have Hrd := Lib.hid hrd
  obtain ⟨⟨⟨cs, dn2, fu2, fa2⟩, code2⟩, hcr⟩ : ∃ r, crv ⟨fs, down, fuse, fault⟩ ks = r := ⟨_, rfl⟩
  have hcl := crv_len ⟨fs, down, fuse, fault⟩ ks
  rw [hcr] at hcl
  have Hcl := Lib.hid hcl
  have Hcr := Lib.hid hcr
  obtain ⟨up, hup⟩ : ∃ u, upv ⟨fs, down, fuse, fault⟩ = u := ⟨_, rfl⟩
  have Hup := Lib.hid hup
  obtain ⟨ns, hns⟩ : ∃ l, nmv ⟨fs, down, fuse, fault⟩ = l := ⟨_, rfl⟩
  have Hns := Lib.hid hns
  have hnl : ns.length ≤ 9223372036854775807 := by
    rw [← hns]
    unfold nmv
    split
    · have := h.i.1; simp only [List.length_map]; omega
    · simp
  have Hnl := Lib.hid hnl
  obtain ⟨ck, hck⟩ := checks fs
  have Hck := Lib.hid hck
  have Hks := Lib.hid hks
  clear h hb0 hx hy hnk hdo hall hrd hcl hcr hup hns hnl hck hks
  go_enter Try.func3, Try.ntmps3
  go_upto_region 1 with (fail)
  rw [← hW0]
  clear hW0
  obtain ⟨⟨p0, p1, p2, p3⟩, -⟩ := HX.out.d.d.facts
  go_wp2_with fail
  refine (copyW_any _ ad n cap down fuse fault fs HX.out.d.i h40).mono ?_
  rintro e w1 ⟨adg, capg, rfl, hi, hb, _⟩
  clear p0 p1 p2 p3
  obtain ⟨W1, hW1⟩ : ∃ W, W = w1.alloc (.cells (dcells (.slice adg n capg) down fuse fault) 24) := ⟨_, rfl⟩
  have hal : Below w1.heap.size w1 W1 := by rw [hW1]; exact (Below.refl w1.heap.size w1).alloc (Nat.le_refl _) _
  replace HX := Lib.hid ((HX.out.under hb).under hal)
  have HG := Lib.hid (show Var W1 w1.heap.size _ _ _ _ _ _ _ from by rw [hW1]; exact Var.new hi)
  clear hi hb hal
  go_upto_region 2 with (fail)
  rw [← hW1]
  clear hW1
  obtain ⟨⟨p0, p1, p2, p3⟩, -⟩ := HG.out.d.facts
  obtain ⟨q0, q1, q2, q3⟩ := box4 HX.out.s
  go_wp2_with fail
  refine (Do_any _ adg n capg down fuse fault fs k nm dt z (Hd HG.out.i).out hn hd).mono ?_
  rw [Hdo.out]
  rintro e w2 ⟨ada, na, capa, rfl, hi, hb, _⟩
  clear p0 p1 p2 p3 q0 q1 q2 q3
  obtain ⟨W2, hW2⟩ : ∃ W, W = w2.alloc (.cells (dcells (.slice ada na capa) dn fu fa) 24) := ⟨_, rfl⟩
  have hal : Below w2.heap.size w2 W2 := by rw [hW2]; exact (Below.refl w2.heap.size w2).alloc (Nat.le_refl _) _
  replace HX := Lib.hid ((HX.out.under hb).under hal)
  replace HG := Lib.hid ((HG.out.under hb).under hal)
  have HA := Lib.hid (show Var W2 w2.heap.size _ _ _ _ _ _ _ from by rw [hW2]; exact Var.new hi)
  clear hi hb hal
  go_upto_region 3 with (fail)
  rw [← hW2]
  clear hW2
  obtain ⟨⟨p0, p1, p2, p3⟩, -⟩ := HX.out.d.d.facts
  obtain ⟨q0, q1, q2, q3⟩ := box4 HX.out.s
  go_wp2_with fail
  refine (ddo_any _ ad n cap down fuse fault fs k nm dt z (Hd HX.out.d.i).out hn hd hz0 hz1).mono ?_
  rw [Hdo.out]
  rintro e w3 ⟨adb, nb, capb, rfl, hi, hb⟩
  clear p0 p1 p2 p3 q0 q1 q2 q3
  obtain ⟨W3, hW3⟩ : ∃ W, W = w3.alloc (.cells (dcells (.slice adb nb capb) dn fu fa) 24) := ⟨_, rfl⟩
  have hal : Below w3.heap.size w3 W3 := by rw [hW3]; exact (Below.refl w3.heap.size w3).alloc (Nat.le_refl _) _
  replace HX := Lib.hid ((HX.out.under hb).under hal)
  replace HG := Lib.hid ((HG.out.under hb).under hal)
  replace HA := Lib.hid ((HA.out.under hb).under hal)
  have HBb := Lib.hid (show Var W3 w3.heap.size _ _ _ _ _ _ _ from by rw [hW3]; exact Var.new hi)
  clear hi hb hal
  go_upto_region 4 with (fail)
  rw [← hW3]
  clear hW3
  obtain ⟨⟨p0, p1, p2, p3⟩, -⟩ := HG.out.d.facts
  obtain ⟨q0, q1, q2, q3⟩ := box4 HX.out.s
  go_wp2_with fail
  refine (dcall_any _ adg n capg down fuse fault fs k nm dt z (Hd HG.out.i).out hn hd hz0 hz1).mono ?_
  rw [Hdo.out]
  rintro e w4 ⟨adc, nc, capc, rfl, hi, hb⟩
  clear p0 p1 p2 p3 q0 q1 q2 q3
  obtain ⟨W4, hW4⟩ : ∃ W, W = w4.alloc (.cells (dcells (.slice adc nc capc) dn fu fa) 24) := ⟨_, rfl⟩
  have hal : Below w4.heap.size w4 W4 := by rw [hW4]; exact (Below.refl w4.heap.size w4).alloc (Nat.le_refl _) _
  replace HX := Lib.hid ((HX.out.under hb).under hal)
  replace HG := Lib.hid ((HG.out.under hb).under hal)
  replace HA := Lib.hid ((HA.out.under hb).under hal)
  replace HBb := Lib.hid ((HBb.out.under hb).under hal)
  have HC := Lib.hid (show Var W4 w4.heap.size _ _ _ _ _ _ _ from by rw [hW4]; exact Var.new hi)
  clear hi hb hal
  go_upto_region 5 with (fail)
  rw [← hW4]
  clear hW4
  obtain ⟨⟨p0, p1, p2, p3⟩, -⟩ := HG.out.d.facts
  go_wp2_with fail
  refine (Read_any _ adg n capg down fuse fault fs b (Hd HG.out.i).out hbs).mono ?_
  rw [Hrd.out]
  rintro e w5 ⟨rfl, hb⟩
  clear p0 p1 p2 p3
  replace HX := Lib.hid (HX.out.under hb)
  replace HG := Lib.hid (HG.out.under hb)
  replace HA := Lib.hid (HA.out.under hb)
  replace HBb := Lib.hid (HBb.out.under hb)
  replace HC := Lib.hid (HC.out.under hb)
  clear hb
  go_upto_region 6 with (fail)
  obtain ⟨⟨p0, p1, p2, p3⟩, -⟩ := HX.out.d.d.facts
  go_wp2_with fail
  refine (dread_any _ ad n cap down fuse fault fs b (Hd HX.out.d.i).out hn63 hbs).mono ?_
  rw [Hrd.out]
  rintro e w6 ⟨rfl, hb⟩
  clear p0 p1 p2 p3
  replace HX := Lib.hid (HX.out.under hb)
  replace HG := Lib.hid (HG.out.under hb)
  replace HA := Lib.hid (HA.out.under hb)
  replace HBb := Lib.hid (HBb.out.under hb)
  replace HC := Lib.hid (HC.out.under hb)
  clear hb
  go_upto_region 7 with (fail)
  obtain ⟨⟨p0, p1, p2, p3⟩, -⟩ := HG.out.d.facts
  go_wp2_with fail
  refine (names15_any _ adg n capg down fuse fault fs (Hd HG.out.i).out).mono ?_
  rw [Hup.out, Hns.out]
  rintro e w7 ⟨adh, nh, caph, rfl, rfl, hs, hb⟩
  clear p0 p1 p2 p3
  replace HX := Lib.hid (HX.out.under hb)
  replace HG := Lib.hid (HG.out.under hb)
  replace HA := Lib.hid (HA.out.under hb)
  replace HBb := Lib.hid (HBb.out.under hb)
  replace HC := Lib.hid (HC.out.under hb)
  have HS1 := Lib.hid hs
  clear hs
  clear hb
  go_upto_region 8 with (fail)
  obtain ⟨⟨p0, p1, p2, p3⟩, -⟩ := HX.out.d.d.facts
  go_wp2_with fail
  refine (names16_any _ ad n cap down fuse fault fs (Hd HX.out.d.i).out).mono ?_
  rw [Hup.out, Hns.out]
  rintro e w8 ⟨adi, ni, capi, rfl, rfl, hs, hb⟩
  clear p0 p1 p2 p3
  replace HX := Lib.hid (HX.out.under hb)
  replace HG := Lib.hid (HG.out.under hb)
  replace HA := Lib.hid (HA.out.under hb)
  replace HBb := Lib.hid (HBb.out.under hb)
  replace HC := Lib.hid (HC.out.under hb)
  replace HS1 := Lib.hid (strs_under HS1.out hb)
  have HS2 := Lib.hid hs
  clear hs
  clear hb
  go_upto_region 9 with (fail)
  obtain ⟨⟨p0, p1, p2, p3⟩, -⟩ := HG.out.d.facts
  go_wp2_with fail
  refine (Crash_any _ adg n capg down fuse fault fs (Hd HG.out.i).out adk nk capk ks HX.out.k Hnk.out hnk63).mono ?_
  rw [Hcr.out]
  rintro e w9 ⟨adj, nj, capj, rfl, hi, hb, _⟩
  clear p0 p1 p2 p3
  obtain ⟨W9, hW9⟩ : ∃ W, W = w9.alloc (.cells (dcells (.slice adj nj capj) dn2 fu2 fa2) 24) := ⟨_, rfl⟩
  have hal : Below w9.heap.size w9 W9 := by rw [hW9]; exact (Below.refl w9.heap.size w9).alloc (Nat.le_refl _) _
  replace HX := Lib.hid ((HX.out.under hb).under hal)
  replace HG := Lib.hid ((HG.out.under hb).under hal)
  replace HA := Lib.hid ((HA.out.under hb).under hal)
  replace HBb := Lib.hid ((HBb.out.under hb).under hal)
  replace HC := Lib.hid ((HC.out.under hb).under hal)
  replace HS1 := Lib.hid (strs_under (strs_under HS1.out hb) hal)
  replace HS2 := Lib.hid (strs_under (strs_under HS2.out hb) hal)
  have HJ := Lib.hid (show Var W9 w9.heap.size _ _ _ _ _ _ _ from by rw [hW9]; exact Var.new hi)
  clear hi hb hal
  go_upto_region 10 with (fail)
  rw [← hW9]
  clear hW9
  obtain ⟨⟨p0, p1, p2, p3⟩, -⟩ := HX.out.d.d.facts
  go_wp2_with fail
  refine (dcrash_any _ ad n cap down fuse fault fs (Hd HX.out.d.i).out adk nk capk ks HX.out.k Hnk.out hnk63).mono ?_
  rw [Hcr.out]
  rintro e w10 ⟨adl, nl, capl, rfl, hi, hb⟩
  clear p0 p1 p2 p3
  obtain ⟨W10, hW10⟩ : ∃ W, W = w10.alloc (.cells (dcells (.slice adl nl capl) dn2 fu2 fa2) 24) := ⟨_, rfl⟩
  have hal : Below w10.heap.size w10 W10 := by rw [hW10]; exact (Below.refl w10.heap.size w10).alloc (Nat.le_refl _) _
  replace HX := Lib.hid ((HX.out.under hb).under hal)
  replace HG := Lib.hid ((HG.out.under hb).under hal)
  replace HA := Lib.hid ((HA.out.under hb).under hal)
  replace HBb := Lib.hid ((HBb.out.under hb).under hal)
  replace HC := Lib.hid ((HC.out.under hb).under hal)
  replace HJ := Lib.hid ((HJ.out.under hb).under hal)
  replace HS1 := Lib.hid (strs_under (strs_under HS1.out hb) hal)
  replace HS2 := Lib.hid (strs_under (strs_under HS2.out hb) hal)
  have HL := Lib.hid (show Var W10 w10.heap.size _ _ _ _ _ _ _ from by rw [hW10]; exact Var.new hi)
  clear hi hb hal
  go_upto_region 11 with (fail)
  rw [← hW10]
  clear hW10
  go_wp2_with fail
  refine (lives_any _).mono ?_
  rintro e w11 ⟨rfl, hb⟩
  replace HX := Lib.hid (HX.out.under hb)
  replace HG := Lib.hid (HG.out.under hb)
  replace HA := Lib.hid (HA.out.under hb)
  replace HBb := Lib.hid (HBb.out.under hb)
  replace HC := Lib.hid (HC.out.under hb)
  replace HJ := Lib.hid (HJ.out.under hb)
  replace HL := Lib.hid (HL.out.under hb)
  replace HS1 := Lib.hid (strs_under HS1.out hb)
  replace HS2 := Lib.hid (strs_under HS2.out hb)
  clear hb
  obtain ⟨⟨p0, p1, p2, p3⟩, -⟩ := HA.out.d.facts
  obtain ⟨⟨q0, q1, q2, q3⟩, -⟩ := HBb.out.d.facts
  go_wp2_with fail
  refine (same_yes _ ada adb na capa nb capb dn fu fa gs HA.out.i HBb.out.i (by have h1 := HA.out.i.1; have h2 := Hgl.out; omega)).mono ?_
  rintro e w12 ⟨rfl, hb⟩
  clear p0 p1 p2 p3 q0 q1 q2 q3
  replace HX := Lib.hid (HX.out.under hb)
  replace HG := Lib.hid (HG.out.under hb)
  replace HA := Lib.hid (HA.out.under hb)
  replace HBb := Lib.hid (HBb.out.under hb)
  replace HC := Lib.hid (HC.out.under hb)
  replace HJ := Lib.hid (HJ.out.under hb)
  replace HL := Lib.hid (HL.out.under hb)
  replace HS1 := Lib.hid (strs_under HS1.out hb)
  replace HS2 := Lib.hid (strs_under HS2.out hb)
  clear hb
  obtain ⟨⟨p0, p1, p2, p3⟩, -⟩ := HA.out.d.facts
  obtain ⟨⟨q0, q1, q2, q3⟩, -⟩ := HC.out.d.facts
  go_wp2_with fail
  refine (same_yes _ ada adc na capa nc capc dn fu fa gs HA.out.i HC.out.i (by have h1 := HA.out.i.1; have h2 := Hgl.out; omega)).mono ?_
  rintro e w13 ⟨rfl, hb⟩
  clear p0 p1 p2 p3 q0 q1 q2 q3
  replace HX := Lib.hid (HX.out.under hb)
  replace HG := Lib.hid (HG.out.under hb)
  replace HA := Lib.hid (HA.out.under hb)
  replace HBb := Lib.hid (HBb.out.under hb)
  replace HC := Lib.hid (HC.out.under hb)
  replace HJ := Lib.hid (HJ.out.under hb)
  replace HL := Lib.hid (HL.out.under hb)
  replace HS1 := Lib.hid (strs_under HS1.out hb)
  replace HS2 := Lib.hid (strs_under HS2.out hb)
  clear hb
  clear HA HBb HC
  go_upto_region 13 with (fail)
  refine wp_region_any (by kernel_rfl) ?_
  obtain ⟨X9, hX⟩ : ∃ X, w13.drew = X := ⟨_, rfl⟩
  change wpAny _ _ _ _ _ _ _ (w13.drew)
  rw [hX]
  have hbX : Below w13.heap.size w13 X9 := by rw [← hX]; exact (Below.refl _ w13).drew
  replace HX := Lib.hid (HX.out.under hbX)
  replace HG := Lib.hid (HG.out.under hbX)
  replace HJ := Lib.hid (HJ.out.under hbX)
  replace HL := Lib.hid (HL.out.under hbX)
  replace HS1 := Lib.hid (strs_under HS1.out hbX)
  replace HS2 := Lib.hid (strs_under HS2.out hbX)
  clear hbX hX
  obtain ⟨⟨p0, p1, p2, p3⟩, -⟩ := HX.out.d.d.facts
  obtain ⟨⟨q0, q1, q2, q3⟩, -⟩ := HG.out.d.facts
  obtain ⟨⟨r0, r1, r2, r3⟩, -⟩ := HJ.out.d.facts
  obtain ⟨⟨t0, t1, t2, t3⟩, -⟩ := HL.out.d.facts
  refine wpAny_take (i := 0) (v := ?va1) rfl (by kernel_rfl) (by kernel_rfl) (by kernel_rfl) (fun _ _ _ h => h) (Or.inl ⟨by kernel_rfl, ?ha1⟩) ?ra1
  case ha1 => (intro w; go_simp; first | done | (with_reducible rfl))
  refine wpAny_take (i := 1) (v := ?va2) rfl (by kernel_rfl) (by kernel_rfl) (by kernel_rfl) (fun _ _ _ h => h) (Or.inl ⟨by kernel_rfl, ?ha2⟩) ?ra2
  case ha2 => (intro w; go_simp; first | done | (with_reducible rfl))
  refine wpAny_ready (rs := [2]) (by kernel_rfl) (by simp) ?_
  refine AllReady.cons rfl (fun K hK => ?_) AllReady.nil
  go_simp
  go_at_call 21
  refine (texts_yes _ adh adi ns.length caph ns.length capi ns rfl HS1.out rfl HS2.out Hnl.out).mono ?_
  rintro e wz ⟨rfl, hb⟩
  clear p0 p1 p2 p3 q0 q1 q2 q3 r0 r1 r2 r3 t0 t1 t2 t3
  replace HX := Lib.hid (HX.out.under hb)
  replace HG := Lib.hid (HG.out.under hb)
  replace HJ := Lib.hid (HJ.out.under hb)
  replace HL := Lib.hid (HL.out.under hb)
  replace HS1 := Lib.hid (strs_under HS1.out hb)
  replace HS2 := Lib.hid (strs_under HS2.out hb)
  clear hb
  obtain ⟨⟨p0, p1, p2, p3⟩, -⟩ := HX.out.d.d.facts
  obtain ⟨⟨q0, q1, q2, q3⟩, -⟩ := HG.out.d.facts
  obtain ⟨⟨r0, r1, r2, r3⟩, -⟩ := HJ.out.d.facts
  obtain ⟨⟨t0, t1, t2, t3⟩, -⟩ := HL.out.d.facts
  refine hK _ _ ?_
  clear hK K
  refine wpAny_take (i := 3) (v := ?va3) rfl (by kernel_rfl) (by kernel_rfl) (by kernel_rfl) (fun _ _ _ h => h) (Or.inl ⟨by kernel_rfl, ?ha3⟩) ?ra3
  case ha3 => (intro w; go_simp; first | done | (with_reducible rfl))
  refine wpAny_take (i := 4) (v := ?va4) rfl (by kernel_rfl) (by kernel_rfl) (by kernel_rfl) (fun _ _ _ h => h) (Or.inl ⟨by kernel_rfl, ?ha4⟩) ?ra4
  case ha4 => (intro w; go_simp; first | done | (with_reducible rfl))
  refine wpAny_take (i := 5) (v := ?va5) rfl (by kernel_rfl) (by kernel_rfl) (by kernel_rfl) (fun _ _ _ h => h) (Or.inl ⟨by kernel_rfl, ?ha5⟩) ?ra5
  case ha5 => (intro w; go_simp; first | done | (with_reducible rfl))
  refine wpAny_take (i := 6) (v := ?va6) rfl (by kernel_rfl) (by kernel_rfl) (by kernel_rfl) (fun _ _ _ h => h) (Or.inl ⟨by kernel_rfl, ?ha6⟩) ?ra6
  case ha6 => (intro w; go_simp; first | done | (with_reducible rfl))
  refine wpAny_take (i := 7) (v := ?va7) rfl (by kernel_rfl) (by kernel_rfl) (by kernel_rfl) (fun _ _ _ h => h) (Or.inl ⟨by kernel_rfl, ?ha7⟩) ?ra7
  case ha7 => (intro w; go_simp; first | done | (with_reducible rfl))
  refine wpAny_take (i := 8) (v := ?va8) rfl (by kernel_rfl) (by kernel_rfl) (by kernel_rfl) (fun _ _ _ h => h) (Or.inl ⟨by kernel_rfl, ?ha8⟩) ?ra8
  case ha8 => (intro w; go_simp; first | done | (with_reducible rfl))
  refine wpAny_ready (rs := [9, 10]) (by kernel_rfl) (by simp) ?_
  refine AllReady.cons rfl (fun K hK => ?_) ?_
  · skip
    go_simp
    refine hK _ _ ?_
    clear hK K
    refine wpAny_ready (rs := [10]) (by kernel_rfl) (by simp) ?_
    refine AllReady.cons rfl (fun K hK => ?_) AllReady.nil
    go_simp
    refine hK _ _ ?_
    clear hK K
    refine wpAny_ready (rs := [11]) (by kernel_rfl) (by simp) ?_
    refine AllReady.cons rfl (fun K hK => ?_) AllReady.nil
    go_simp
    go_at_call 20
    refine (same_yes _ adj adl nj capj nl capl dn2 fu2 fa2 cs HJ.out.i HL.out.i (by have h1 := HJ.out.i.1; have h2 := Hcl.out; omega)).mono ?_
    rintro e wz ⟨rfl, hb⟩
    clear p0 p1 p2 p3 q0 q1 q2 q3 r0 r1 r2 r3 t0 t1 t2 t3
    replace HX := Lib.hid (HX.out.under hb)
    replace HG := Lib.hid (HG.out.under hb)
    replace HJ := Lib.hid (HJ.out.under hb)
    replace HL := Lib.hid (HL.out.under hb)
    replace HS1 := Lib.hid (strs_under HS1.out hb)
    replace HS2 := Lib.hid (strs_under HS2.out hb)
    clear hb
    obtain ⟨⟨p0, p1, p2, p3⟩, -⟩ := HX.out.d.d.facts
    obtain ⟨⟨q0, q1, q2, q3⟩, -⟩ := HG.out.d.facts
    obtain ⟨⟨r0, r1, r2, r3⟩, -⟩ := HJ.out.d.facts
    obtain ⟨⟨t0, t1, t2, t3⟩, -⟩ := HL.out.d.facts
    refine hK _ _ ?_
    clear hK K
    refine wpAny_take (i := 12) (v := ?va9) rfl (by kernel_rfl) (by kernel_rfl) (by kernel_rfl) (fun _ _ _ h => h) (Or.inl ⟨by kernel_rfl, ?ha9⟩) ?ra9
    case ha9 => (intro w; go_simp; first | done | (with_reducible rfl))
    refine wpAny_take (i := 13) (v := ?va10) rfl (by kernel_rfl) (by kernel_rfl) (by kernel_rfl) (fun _ _ _ h => h) (Or.inl ⟨by kernel_rfl, ?ha10⟩) ?ra10
    case ha10 => (intro w; go_simp; first | done | (with_reducible rfl))
    refine wpAny_take (i := 14) (v := ?va11) rfl (by kernel_rfl) (by kernel_rfl) (by kernel_rfl) (fun _ _ _ h => h) (Or.inl ⟨by kernel_rfl, ?ha11⟩) ?ra11
    case ha11 => (intro w; go_simp; first | done | (with_reducible rfl))
    refine wpAny_take (i := 15) (v := ?va12) rfl (by kernel_rfl) (by kernel_rfl) (by kernel_rfl) (fun _ _ _ h => h) (Or.inl ⟨by kernel_rfl, ?ha12⟩) ?ra12
    case ha12 => (intro w; go_simp; first | done | (with_reducible rfl))
    refine wpAny_take (i := 16) (v := ?va13) rfl (by kernel_rfl) (by kernel_rfl) (by kernel_rfl) (fun _ _ _ h => h) (Or.inl ⟨by kernel_rfl, ?ha13⟩) ?ra13
    case ha13 => (intro w; go_simp; first | done | (with_reducible rfl))
    refine wpAny_take (i := 17) (v := ?va14) rfl (by kernel_rfl) (by kernel_rfl) (by kernel_rfl) (fun _ _ _ h => h) (Or.inl ⟨by kernel_rfl, ?ha14⟩) ?ra14
    case ha14 => (intro w; go_simp; first | done | (with_reducible rfl))
    refine wpAny_take (i := 18) (v := ?va15) rfl (by kernel_rfl) (by kernel_rfl) (by kernel_rfl) (fun _ _ _ h => h) (Or.inl ⟨by kernel_rfl, ?ha15⟩) ?ra15
    case ha15 => (intro w; go_simp; first | done | (with_reducible rfl))
    refine wpAny_ready (rs := [19, 21]) (by kernel_rfl) (by simp) ?_
    refine AllReady.cons rfl (fun K hK => ?_) ?_
    · skip
      go_simp
      refine hK _ _ ?_
      clear hK K
      refine wpAny_ready (rs := [20, 21]) (by kernel_rfl) (by simp) ?_
      refine AllReady.cons rfl (fun K hK => ?_) ?_
      · skip
        go_simp
        go_at_call 22
        refine (Hck.out.1 _ adg capg n down fuse fault (Hd HG.out.i).out).mono ?_
        rintro e wz ⟨rfl, hb⟩
        clear p0 p1 p2 p3 q0 q1 q2 q3 r0 r1 r2 r3 t0 t1 t2 t3
        replace HX := Lib.hid (HX.out.under hb)
        replace HG := Lib.hid (HG.out.under hb)
        replace HJ := Lib.hid (HJ.out.under hb)
        replace HL := Lib.hid (HL.out.under hb)
        replace HS1 := Lib.hid (strs_under HS1.out hb)
        replace HS2 := Lib.hid (strs_under HS2.out hb)
        clear hb
        obtain ⟨⟨p0, p1, p2, p3⟩, -⟩ := HX.out.d.d.facts
        obtain ⟨⟨q0, q1, q2, q3⟩, -⟩ := HG.out.d.facts
        obtain ⟨⟨r0, r1, r2, r3⟩, -⟩ := HJ.out.d.facts
        obtain ⟨⟨t0, t1, t2, t3⟩, -⟩ := HL.out.d.facts
        refine hK _ _ ?_
        clear hK K
        refine wpAny_ready (rs := [21]) (by kernel_rfl) (by simp) ?_
        refine AllReady.cons rfl (fun K hK => ?_) AllReady.nil
        go_simp
        refine hK _ _ ?_
        clear hK K
        refine wpAny_ready (rs := [22]) (by kernel_rfl) (by simp) ?_
        refine AllReady.cons rfl (fun K hK => ?_) AllReady.nil
        go_simp
        go_at_call 23
        refine (Hck.out.2 _ ad cap n down fuse fault (Hd HX.out.d.i).out).mono ?_
        rintro e wz ⟨rfl, hb⟩
        clear p0 p1 p2 p3 q0 q1 q2 q3 r0 r1 r2 r3 t0 t1 t2 t3
        replace HX := Lib.hid (HX.out.under hb)
        replace HG := Lib.hid (HG.out.under hb)
        replace HJ := Lib.hid (HJ.out.under hb)
        replace HL := Lib.hid (HL.out.under hb)
        replace HS1 := Lib.hid (strs_under HS1.out hb)
        replace HS2 := Lib.hid (strs_under HS2.out hb)
        clear hb
        obtain ⟨⟨p0, p1, p2, p3⟩, -⟩ := HX.out.d.d.facts
        obtain ⟨⟨q0, q1, q2, q3⟩, -⟩ := HG.out.d.facts
        obtain ⟨⟨r0, r1, r2, r3⟩, -⟩ := HJ.out.d.facts
        obtain ⟨⟨t0, t1, t2, t3⟩, -⟩ := HL.out.d.facts
        refine hK _ _ ?_
        clear hK K
        refine wpAny_take (i := 23) (v := ?va16) rfl (by kernel_rfl) (by kernel_rfl) (by kernel_rfl) (fun _ _ _ h => h) (Or.inl ⟨by kernel_rfl, ?ha16⟩) ?ra16
        case ha16 => (intro w; go_simp; first | done | (with_reducible rfl))
        refine wpAny_take (i := 24) (v := ?va17) rfl (by kernel_rfl) (by kernel_rfl) (by kernel_rfl) (fun _ _ _ h => h) (Or.inl ⟨by kernel_rfl, ?ha17⟩) ?ra17
        case ha17 => (intro w; go_simp; first | done | (with_reducible rfl))
        refine wpAny_take (i := 25) (v := ?va18) rfl (by kernel_rfl) (by kernel_rfl) (by kernel_rfl) (fun _ _ _ h => h) (Or.inl ⟨by kernel_rfl, ?ha18⟩) ?ra18
        case ha18 => (intro w; go_simp; first | done | (with_reducible rfl))
        refine wpAny_ready (rs := [26, 27]) (by kernel_rfl) (by simp) ?_
        refine AllReady.cons rfl (fun K hK => ?_) ?_
        · skip
          go_simp
          refine hK _ _ ?_
          clear hK K
          refine wpAny_ready (rs := [27]) (by kernel_rfl) (by simp) ?_
          refine AllReady.cons rfl (fun K hK => ?_) AllReady.nil
          go_simp
          refine hK _ _ ?_
          clear hK K
          refine wpAny_ready (rs := [28]) (by kernel_rfl) (by simp) ?_
          refine AllReady.cons rfl (fun K hK => ?_) AllReady.nil
          go_simp
          go_at_call 20
          refine (same_yes _ adg ad n capg n cap down fuse fault fs HG.out.i HX.out.d.i hn63).mono ?_
          rintro e wz ⟨rfl, hb⟩
          clear p0 p1 p2 p3 q0 q1 q2 q3 r0 r1 r2 r3 t0 t1 t2 t3
          replace HX := Lib.hid (HX.out.under hb)
          replace HG := Lib.hid (HG.out.under hb)
          replace HJ := Lib.hid (HJ.out.under hb)
          replace HL := Lib.hid (HL.out.under hb)
          replace HS1 := Lib.hid (strs_under HS1.out hb)
          replace HS2 := Lib.hid (strs_under HS2.out hb)
          clear hb
          obtain ⟨⟨p0, p1, p2, p3⟩, -⟩ := HX.out.d.d.facts
          obtain ⟨⟨q0, q1, q2, q3⟩, -⟩ := HG.out.d.facts
          obtain ⟨⟨r0, r1, r2, r3⟩, -⟩ := HJ.out.d.facts
          obtain ⟨⟨t0, t1, t2, t3⟩, -⟩ := HL.out.d.facts
          refine hK _ _ ?_
          clear hK K
          refine wpAny_take (i := 29) (v := ?va19) rfl (by kernel_rfl) (by kernel_rfl) (by kernel_rfl) (fun _ _ _ h => h) (Or.inl ⟨by kernel_rfl, ?ha19⟩) ?ra19
          case ha19 => (intro w; go_simp; first | done | (with_reducible rfl))
          refine wpAny_ready (rs := [30]) (by kernel_rfl) (by simp) ?_
          refine AllReady.cons rfl (fun K hK => ?_) AllReady.nil
          go_simp
          refine hK _ _ ?_
          clear hK K
          refine wpAny_done (by kernel_rfl) ?_ _
          try go_simp
          go_wp2
          go_ret
          exact ⟨rfl, HX.out.b⟩
        refine AllReady.cons rfl (fun K hK => ?_) AllReady.nil
        go_simp
        refine hK _ _ ?_
        clear hK K
        refine wpAny_ready (rs := [26]) (by kernel_rfl) (by simp) ?_
        refine AllReady.cons rfl (fun K hK => ?_) AllReady.nil
        go_simp
        refine hK _ _ ?_
        clear hK K
        refine wpAny_ready (rs := [28]) (by kernel_rfl) (by simp) ?_
        refine AllReady.cons rfl (fun K hK => ?_) AllReady.nil
        go_simp
        go_at_call 20
        refine (same_yes _ adg ad n capg n cap down fuse fault fs HG.out.i HX.out.d.i hn63).mono ?_
        rintro e wz ⟨rfl, hb⟩
        clear p0 p1 p2 p3 q0 q1 q2 q3 r0 r1 r2 r3 t0 t1 t2 t3
        replace HX := Lib.hid (HX.out.under hb)
        replace HG := Lib.hid (HG.out.under hb)
        replace HJ := Lib.hid (HJ.out.under hb)
        replace HL := Lib.hid (HL.out.under hb)
        replace HS1 := Lib.hid (strs_under HS1.out hb)
        replace HS2 := Lib.hid (strs_under HS2.out hb)
        clear hb
        obtain ⟨⟨p0, p1, p2, p3⟩, -⟩ := HX.out.d.d.facts
        obtain ⟨⟨q0, q1, q2, q3⟩, -⟩ := HG.out.d.facts
        obtain ⟨⟨r0, r1, r2, r3⟩, -⟩ := HJ.out.d.facts
        obtain ⟨⟨t0, t1, t2, t3⟩, -⟩ := HL.out.d.facts
        refine hK _ _ ?_
        clear hK K
        refine wpAny_take (i := 29) (v := ?va20) rfl (by kernel_rfl) (by kernel_rfl) (by kernel_rfl) (fun _ _ _ h => h) (Or.inl ⟨by kernel_rfl, ?ha20⟩) ?ra20
        case ha20 => (intro w; go_simp; first | done | (with_reducible rfl))
        refine wpAny_ready (rs := [30]) (by kernel_rfl) (by simp) ?_
        refine AllReady.cons rfl (fun K hK => ?_) AllReady.nil
        go_simp
        refine hK _ _ ?_
        clear hK K
        refine wpAny_done (by kernel_rfl) ?_ _
        try go_simp
        go_wp2
        go_ret
        exact ⟨rfl, HX.out.b⟩
      refine AllReady.cons rfl (fun K hK => ?_) AllReady.nil
      go_simp
      refine hK _ _ ?_
      clear hK K
      refine wpAny_ready (rs := [20]) (by kernel_rfl) (by simp) ?_
      refine AllReady.cons rfl (fun K hK => ?_) AllReady.nil
      go_simp
      go_at_call 22
      refine (Hck.out.1 _ adg capg n down fuse fault (Hd HG.out.i).out).mono ?_
      rintro e wz ⟨rfl, hb⟩
      clear p0 p1 p2 p3 q0 q1 q2 q3 r0 r1 r2 r3 t0 t1 t2 t3
      replace HX := Lib.hid (HX.out.under hb)
      replace HG := Lib.hid (HG.out.under hb)
      replace HJ := Lib.hid (HJ.out.under hb)
      replace HL := Lib.hid (HL.out.under hb)
      replace HS1 := Lib.hid (strs_under HS1.out hb)
      replace HS2 := Lib.hid (strs_under HS2.out hb)
      clear hb
      obtain ⟨⟨p0, p1, p2, p3⟩, -⟩ := HX.out.d.d.facts
      obtain ⟨⟨q0, q1, q2, q3⟩, -⟩ := HG.out.d.facts
      obtain ⟨⟨r0, r1, r2, r3⟩, -⟩ := HJ.out.d.facts
      obtain ⟨⟨t0, t1, t2, t3⟩, -⟩ := HL.out.d.facts
      refine hK _ _ ?_
      clear hK K
      refine wpAny_ready (rs := [22]) (by kernel_rfl) (by simp) ?_
      refine AllReady.cons rfl (fun K hK => ?_) AllReady.nil
      go_simp
      go_at_call 23
      refine (Hck.out.2 _ ad cap n down fuse fault (Hd HX.out.d.i).out).mono ?_
      rintro e wz ⟨rfl, hb⟩
      clear p0 p1 p2 p3 q0 q1 q2 q3 r0 r1 r2 r3 t0 t1 t2 t3
      replace HX := Lib.hid (HX.out.under hb)
      replace HG := Lib.hid (HG.out.under hb)
      replace HJ := Lib.hid (HJ.out.under hb)
      replace HL := Lib.hid (HL.out.under hb)
      replace HS1 := Lib.hid (strs_under HS1.out hb)
      replace HS2 := Lib.hid (strs_under HS2.out hb)
      clear hb
      obtain ⟨⟨p0, p1, p2, p3⟩, -⟩ := HX.out.d.d.facts
      obtain ⟨⟨q0, q1, q2, q3⟩, -⟩ := HG.out.d.facts
      obtain ⟨⟨r0, r1, r2, r3⟩, -⟩ := HJ.out.d.facts
      obtain ⟨⟨t0, t1, t2, t3⟩, -⟩ := HL.out.d.facts
      refine hK _ _ ?_
      clear hK K
      refine wpAny_take (i := 23) (v := ?va21) rfl (by kernel_rfl) (by kernel_rfl) (by kernel_rfl) (fun _ _ _ h => h) (Or.inl ⟨by kernel_rfl, ?ha21⟩) ?ra21
      case ha21 => (intro w; go_simp; first | done | (with_reducible rfl))
      refine wpAny_take (i := 24) (v := ?va22) rfl (by kernel_rfl) (by kernel_rfl) (by kernel_rfl) (fun _ _ _ h => h) (Or.inl ⟨by kernel_rfl, ?ha22⟩) ?ra22
      case ha22 => (intro w; go_simp; first | done | (with_reducible rfl))
      refine wpAny_take (i := 25) (v := ?va23) rfl (by kernel_rfl) (by kernel_rfl) (by kernel_rfl) (fun _ _ _ h => h) (Or.inl ⟨by kernel_rfl, ?ha23⟩) ?ra23
      case ha23 => (intro w; go_simp; first | done | (with_reducible rfl))
      refine wpAny_ready (rs := [26, 27]) (by kernel_rfl) (by simp) ?_
      refine AllReady.cons rfl (fun K hK => ?_) ?_
      · skip
        go_simp
        refine hK _ _ ?_
        clear hK K
        refine wpAny_ready (rs := [27]) (by kernel_rfl) (by simp) ?_
        refine AllReady.cons rfl (fun K hK => ?_) AllReady.nil
        go_simp
        refine hK _ _ ?_
        clear hK K
        refine wpAny_ready (rs := [28]) (by kernel_rfl) (by simp) ?_
        refine AllReady.cons rfl (fun K hK => ?_) AllReady.nil
        go_simp
        go_at_call 20
        refine (same_yes _ adg ad n capg n cap down fuse fault fs HG.out.i HX.out.d.i hn63).mono ?_
        rintro e wz ⟨rfl, hb⟩
        clear p0 p1 p2 p3 q0 q1 q2 q3 r0 r1 r2 r3 t0 t1 t2 t3
        replace HX := Lib.hid (HX.out.under hb)
        replace HG := Lib.hid (HG.out.under hb)
        replace HJ := Lib.hid (HJ.out.under hb)
        replace HL := Lib.hid (HL.out.under hb)
        replace HS1 := Lib.hid (strs_under HS1.out hb)
        replace HS2 := Lib.hid (strs_under HS2.out hb)
        clear hb
        obtain ⟨⟨p0, p1, p2, p3⟩, -⟩ := HX.out.d.d.facts
        obtain ⟨⟨q0, q1, q2, q3⟩, -⟩ := HG.out.d.facts
        obtain ⟨⟨r0, r1, r2, r3⟩, -⟩ := HJ.out.d.facts
        obtain ⟨⟨t0, t1, t2, t3⟩, -⟩ := HL.out.d.facts
        refine hK _ _ ?_
        clear hK K
        refine wpAny_take (i := 29) (v := ?va24) rfl (by kernel_rfl) (by kernel_rfl) (by kernel_rfl) (fun _ _ _ h => h) (Or.inl ⟨by kernel_rfl, ?ha24⟩) ?ra24
        case ha24 => (intro w; go_simp; first | done | (with_reducible rfl))
        refine wpAny_ready (rs := [30]) (by kernel_rfl) (by simp) ?_
        refine AllReady.cons rfl (fun K hK => ?_) AllReady.nil
        go_simp
        refine hK _ _ ?_
        clear hK K
        refine wpAny_done (by kernel_rfl) ?_ _
        try go_simp
        go_wp2
        go_ret
        exact ⟨rfl, HX.out.b⟩
      refine AllReady.cons rfl (fun K hK => ?_) AllReady.nil
      go_simp
      refine hK _ _ ?_
      clear hK K
      refine wpAny_ready (rs := [26]) (by kernel_rfl) (by simp) ?_
      refine AllReady.cons rfl (fun K hK => ?_) AllReady.nil
      go_simp
      refine hK _ _ ?_
      clear hK K
      refine wpAny_ready (rs := [28]) (by kernel_rfl) (by simp) ?_
      refine AllReady.cons rfl (fun K hK => ?_) AllReady.nil
      go_simp
      go_at_call 20
      refine (same_yes _ adg ad n capg n cap down fuse fault fs HG.out.i HX.out.d.i hn63).mono ?_
      rintro e wz ⟨rfl, hb⟩
      clear p0 p1 p2 p3 q0 q1 q2 q3 r0 r1 r2 r3 t0 t1 t2 t3
      replace HX := Lib.hid (HX.out.under hb)
      replace HG := Lib.hid (HG.out.under hb)
      replace HJ := Lib.hid (HJ.out.under hb)
      replace HL := Lib.hid (HL.out.under hb)
      replace HS1 := Lib.hid (strs_under HS1.out hb)
      replace HS2 := Lib.hid (strs_under HS2.out hb)
      clear hb
      obtain ⟨⟨p0, p1, p2, p3⟩, -⟩ := HX.out.d.d.facts
      obtain ⟨⟨q0, q1, q2, q3⟩, -⟩ := HG.out.d.facts
      obtain ⟨⟨r0, r1, r2, r3⟩, -⟩ := HJ.out.d.facts
      obtain ⟨⟨t0, t1, t2, t3⟩, -⟩ := HL.out.d.facts
      refine hK _ _ ?_
      clear hK K
      refine wpAny_take (i := 29) (v := ?va25) rfl (by kernel_rfl) (by kernel_rfl) (by kernel_rfl) (fun _ _ _ h => h) (Or.inl ⟨by kernel_rfl, ?ha25⟩) ?ra25
      case ha25 => (intro w; go_simp; first | done | (with_reducible rfl))
      refine wpAny_ready (rs := [30]) (by kernel_rfl) (by simp) ?_
      refine AllReady.cons rfl (fun K hK => ?_) AllReady.nil
      go_simp
      refine hK _ _ ?_
      clear hK K
      refine wpAny_done (by kernel_rfl) ?_ _
      try go_simp
      go_wp2
      go_ret
      exact ⟨rfl, HX.out.b⟩
    refine AllReady.cons rfl (fun K hK => ?_) AllReady.nil
    go_simp
    refine hK _ _ ?_
    clear hK K
    refine wpAny_ready (rs := [19]) (by kernel_rfl) (by simp) ?_
    refine AllReady.cons rfl (fun K hK => ?_) AllReady.nil
    go_simp
    refine hK _ _ ?_
    clear hK K
    refine wpAny_ready (rs := [20]) (by kernel_rfl) (by simp) ?_
    refine AllReady.cons rfl (fun K hK => ?_) AllReady.nil
    go_simp
    go_at_call 22
    refine (Hck.out.1 _ adg capg n down fuse fault (Hd HG.out.i).out).mono ?_
    rintro e wz ⟨rfl, hb⟩
    clear p0 p1 p2 p3 q0 q1 q2 q3 r0 r1 r2 r3 t0 t1 t2 t3
    replace HX := Lib.hid (HX.out.under hb)
    replace HG := Lib.hid (HG.out.under hb)
    replace HJ := Lib.hid (HJ.out.under hb)
    replace HL := Lib.hid (HL.out.under hb)
    replace HS1 := Lib.hid (strs_under HS1.out hb)
    replace HS2 := Lib.hid (strs_under HS2.out hb)
    clear hb
    obtain ⟨⟨p0, p1, p2, p3⟩, -⟩ := HX.out.d.d.facts
    obtain ⟨⟨q0, q1, q2, q3⟩, -⟩ := HG.out.d.facts
    obtain ⟨⟨r0, r1, r2, r3⟩, -⟩ := HJ.out.d.facts
    obtain ⟨⟨t0, t1, t2, t3⟩, -⟩ := HL.out.d.facts
    refine hK _ _ ?_
    clear hK K
    refine wpAny_ready (rs := [22]) (by kernel_rfl) (by simp) ?_
    refine AllReady.cons rfl (fun K hK => ?_) AllReady.nil
    go_simp
    go_at_call 23
    refine (Hck.out.2 _ ad cap n down fuse fault (Hd HX.out.d.i).out).mono ?_
    rintro e wz ⟨rfl, hb⟩
    clear p0 p1 p2 p3 q0 q1 q2 q3 r0 r1 r2 r3 t0 t1 t2 t3
    replace HX := Lib.hid (HX.out.under hb)
    replace HG := Lib.hid (HG.out.under hb)
    replace HJ := Lib.hid (HJ.out.under hb)
    replace HL := Lib.hid (HL.out.under hb)
    replace HS1 := Lib.hid (strs_under HS1.out hb)
    replace HS2 := Lib.hid (strs_under HS2.out hb)
    clear hb
    obtain ⟨⟨p0, p1, p2, p3⟩, -⟩ := HX.out.d.d.facts
    obtain ⟨⟨q0, q1, q2, q3⟩, -⟩ := HG.out.d.facts
    obtain ⟨⟨r0, r1, r2, r3⟩, -⟩ := HJ.out.d.facts
    obtain ⟨⟨t0, t1, t2, t3⟩, -⟩ := HL.out.d.facts
    refine hK _ _ ?_
    clear hK K
    refine wpAny_take (i := 23) (v := ?va26) rfl (by kernel_rfl) (by kernel_rfl) (by kernel_rfl) (fun _ _ _ h => h) (Or.inl ⟨by kernel_rfl, ?ha26⟩) ?ra26
    case ha26 => (intro w; go_simp; first | done | (with_reducible rfl))
    refine wpAny_take (i := 24) (v := ?va27) rfl (by kernel_rfl) (by kernel_rfl) (by kernel_rfl) (fun _ _ _ h => h) (Or.inl ⟨by kernel_rfl, ?ha27⟩) ?ra27
    case ha27 => (intro w; go_simp; first | done | (with_reducible rfl))
    refine wpAny_take (i := 25) (v := ?va28) rfl (by kernel_rfl) (by kernel_rfl) (by kernel_rfl) (fun _ _ _ h => h) (Or.inl ⟨by kernel_rfl, ?ha28⟩) ?ra28
    case ha28 => (intro w; go_simp; first | done | (with_reducible rfl))
    refine wpAny_ready (rs := [26, 27]) (by kernel_rfl) (by simp) ?_
    refine AllReady.cons rfl (fun K hK => ?_) ?_
    · skip
      go_simp
      refine hK _ _ ?_
      clear hK K
      refine wpAny_ready (rs := [27]) (by kernel_rfl) (by simp) ?_
      refine AllReady.cons rfl (fun K hK => ?_) AllReady.nil
      go_simp
      refine hK _ _ ?_
      clear hK K
      refine wpAny_ready (rs := [28]) (by kernel_rfl) (by simp) ?_
      refine AllReady.cons rfl (fun K hK => ?_) AllReady.nil
      go_simp
      go_at_call 20
      refine (same_yes _ adg ad n capg n cap down fuse fault fs HG.out.i HX.out.d.i hn63).mono ?_
      rintro e wz ⟨rfl, hb⟩
      clear p0 p1 p2 p3 q0 q1 q2 q3 r0 r1 r2 r3 t0 t1 t2 t3
      replace HX := Lib.hid (HX.out.under hb)
      replace HG := Lib.hid (HG.out.under hb)
      replace HJ := Lib.hid (HJ.out.under hb)
      replace HL := Lib.hid (HL.out.under hb)
      replace HS1 := Lib.hid (strs_under HS1.out hb)
      replace HS2 := Lib.hid (strs_under HS2.out hb)
      clear hb
      obtain ⟨⟨p0, p1, p2, p3⟩, -⟩ := HX.out.d.d.facts
      obtain ⟨⟨q0, q1, q2, q3⟩, -⟩ := HG.out.d.facts
      obtain ⟨⟨r0, r1, r2, r3⟩, -⟩ := HJ.out.d.facts
      obtain ⟨⟨t0, t1, t2, t3⟩, -⟩ := HL.out.d.facts
      refine hK _ _ ?_
      clear hK K
      refine wpAny_take (i := 29) (v := ?va29) rfl (by kernel_rfl) (by kernel_rfl) (by kernel_rfl) (fun _ _ _ h => h) (Or.inl ⟨by kernel_rfl, ?ha29⟩) ?ra29
      case ha29 => (intro w; go_simp; first | done | (with_reducible rfl))
      refine wpAny_ready (rs := [30]) (by kernel_rfl) (by simp) ?_
      refine AllReady.cons rfl (fun K hK => ?_) AllReady.nil
      go_simp
      refine hK _ _ ?_
      clear hK K
      refine wpAny_done (by kernel_rfl) ?_ _
      try go_simp
      go_wp2
      go_ret
      exact ⟨rfl, HX.out.b⟩
    refine AllReady.cons rfl (fun K hK => ?_) AllReady.nil
    go_simp
    refine hK _ _ ?_
    clear hK K
    refine wpAny_ready (rs := [26]) (by kernel_rfl) (by simp) ?_
    refine AllReady.cons rfl (fun K hK => ?_) AllReady.nil
    go_simp
    refine hK _ _ ?_
    clear hK K
    refine wpAny_ready (rs := [28]) (by kernel_rfl) (by simp) ?_
    refine AllReady.cons rfl (fun K hK => ?_) AllReady.nil
    go_simp
    go_at_call 20
    refine (same_yes _ adg ad n capg n cap down fuse fault fs HG.out.i HX.out.d.i hn63).mono ?_
    rintro e wz ⟨rfl, hb⟩
    clear p0 p1 p2 p3 q0 q1 q2 q3 r0 r1 r2 r3 t0 t1 t2 t3
    replace HX := Lib.hid (HX.out.under hb)
    replace HG := Lib.hid (HG.out.under hb)
    replace HJ := Lib.hid (HJ.out.under hb)
    replace HL := Lib.hid (HL.out.under hb)
    replace HS1 := Lib.hid (strs_under HS1.out hb)
    replace HS2 := Lib.hid (strs_under HS2.out hb)
    clear hb
    obtain ⟨⟨p0, p1, p2, p3⟩, -⟩ := HX.out.d.d.facts
    obtain ⟨⟨q0, q1, q2, q3⟩, -⟩ := HG.out.d.facts
    obtain ⟨⟨r0, r1, r2, r3⟩, -⟩ := HJ.out.d.facts
    obtain ⟨⟨t0, t1, t2, t3⟩, -⟩ := HL.out.d.facts
    refine hK _ _ ?_
    clear hK K
    refine wpAny_take (i := 29) (v := ?va30) rfl (by kernel_rfl) (by kernel_rfl) (by kernel_rfl) (fun _ _ _ h => h) (Or.inl ⟨by kernel_rfl, ?ha30⟩) ?ra30
    case ha30 => (intro w; go_simp; first | done | (with_reducible rfl))
    refine wpAny_ready (rs := [30]) (by kernel_rfl) (by simp) ?_
    refine AllReady.cons rfl (fun K hK => ?_) AllReady.nil
    go_simp
    refine hK _ _ ?_
    clear hK K
    refine wpAny_done (by kernel_rfl) ?_ _
    try go_simp
    go_wp2
    go_ret
    exact ⟨rfl, HX.out.b⟩
  refine AllReady.cons rfl (fun K hK => ?_) AllReady.nil
  go_simp
  refine hK _ _ ?_
  clear hK K
  refine wpAny_ready (rs := [9]) (by kernel_rfl) (by simp) ?_
  refine AllReady.cons rfl (fun K hK => ?_) AllReady.nil
  go_simp
  refine hK _ _ ?_
  clear hK K
  refine wpAny_ready (rs := [11]) (by kernel_rfl) (by simp) ?_
  refine AllReady.cons rfl (fun K hK => ?_) AllReady.nil
  go_simp
  go_at_call 20
  refine (same_yes _ adj adl nj capj nl capl dn2 fu2 fa2 cs HJ.out.i HL.out.i (by have h1 := HJ.out.i.1; have h2 := Hcl.out; omega)).mono ?_
  rintro e wz ⟨rfl, hb⟩
  clear p0 p1 p2 p3 q0 q1 q2 q3 r0 r1 r2 r3 t0 t1 t2 t3
  replace HX := Lib.hid (HX.out.under hb)
  replace HG := Lib.hid (HG.out.under hb)
  replace HJ := Lib.hid (HJ.out.under hb)
  replace HL := Lib.hid (HL.out.under hb)
  replace HS1 := Lib.hid (strs_under HS1.out hb)
  replace HS2 := Lib.hid (strs_under HS2.out hb)
  clear hb
  obtain ⟨⟨p0, p1, p2, p3⟩, -⟩ := HX.out.d.d.facts
  obtain ⟨⟨q0, q1, q2, q3⟩, -⟩ := HG.out.d.facts
  obtain ⟨⟨r0, r1, r2, r3⟩, -⟩ := HJ.out.d.facts
  obtain ⟨⟨t0, t1, t2, t3⟩, -⟩ := HL.out.d.facts
  refine hK _ _ ?_
  clear hK K
  refine wpAny_take (i := 12) (v := ?va31) rfl (by kernel_rfl) (by kernel_rfl) (by kernel_rfl) (fun _ _ _ h => h) (Or.inl ⟨by kernel_rfl, ?ha31⟩) ?ra31
  case ha31 => (intro w; go_simp; first | done | (with_reducible rfl))
  refine wpAny_take (i := 13) (v := ?va32) rfl (by kernel_rfl) (by kernel_rfl) (by kernel_rfl) (fun _ _ _ h => h) (Or.inl ⟨by kernel_rfl, ?ha32⟩) ?ra32
  case ha32 => (intro w; go_simp; first | done | (with_reducible rfl))
  refine wpAny_take (i := 14) (v := ?va33) rfl (by kernel_rfl) (by kernel_rfl) (by kernel_rfl) (fun _ _ _ h => h) (Or.inl ⟨by kernel_rfl, ?ha33⟩) ?ra33
  case ha33 => (intro w; go_simp; first | done | (with_reducible rfl))
  refine wpAny_take (i := 15) (v := ?va34) rfl (by kernel_rfl) (by kernel_rfl) (by kernel_rfl) (fun _ _ _ h => h) (Or.inl ⟨by kernel_rfl, ?ha34⟩) ?ra34
  case ha34 => (intro w; go_simp; first | done | (with_reducible rfl))
  refine wpAny_take (i := 16) (v := ?va35) rfl (by kernel_rfl) (by kernel_rfl) (by kernel_rfl) (fun _ _ _ h => h) (Or.inl ⟨by kernel_rfl, ?ha35⟩) ?ra35
  case ha35 => (intro w; go_simp; first | done | (with_reducible rfl))
  refine wpAny_take (i := 17) (v := ?va36) rfl (by kernel_rfl) (by kernel_rfl) (by kernel_rfl) (fun _ _ _ h => h) (Or.inl ⟨by kernel_rfl, ?ha36⟩) ?ra36
  case ha36 => (intro w; go_simp; first | done | (with_reducible rfl))
  refine wpAny_take (i := 18) (v := ?va37) rfl (by kernel_rfl) (by kernel_rfl) (by kernel_rfl) (fun _ _ _ h => h) (Or.inl ⟨by kernel_rfl, ?ha37⟩) ?ra37
  case ha37 => (intro w; go_simp; first | done | (with_reducible rfl))
  refine wpAny_ready (rs := [19, 21]) (by kernel_rfl) (by simp) ?_
  refine AllReady.cons rfl (fun K hK => ?_) ?_
  · skip
    go_simp
    refine hK _ _ ?_
    clear hK K
    refine wpAny_ready (rs := [20, 21]) (by kernel_rfl) (by simp) ?_
    refine AllReady.cons rfl (fun K hK => ?_) ?_
    · skip
      go_simp
      go_at_call 22
      refine (Hck.out.1 _ adg capg n down fuse fault (Hd HG.out.i).out).mono ?_
      rintro e wz ⟨rfl, hb⟩
      clear p0 p1 p2 p3 q0 q1 q2 q3 r0 r1 r2 r3 t0 t1 t2 t3
      replace HX := Lib.hid (HX.out.under hb)
      replace HG := Lib.hid (HG.out.under hb)
      replace HJ := Lib.hid (HJ.out.under hb)
      replace HL := Lib.hid (HL.out.under hb)
      replace HS1 := Lib.hid (strs_under HS1.out hb)
      replace HS2 := Lib.hid (strs_under HS2.out hb)
      clear hb
      obtain ⟨⟨p0, p1, p2, p3⟩, -⟩ := HX.out.d.d.facts
      obtain ⟨⟨q0, q1, q2, q3⟩, -⟩ := HG.out.d.facts
      obtain ⟨⟨r0, r1, r2, r3⟩, -⟩ := HJ.out.d.facts
      obtain ⟨⟨t0, t1, t2, t3⟩, -⟩ := HL.out.d.facts
      refine hK _ _ ?_
      clear hK K
      refine wpAny_ready (rs := [21]) (by kernel_rfl) (by simp) ?_
      refine AllReady.cons rfl (fun K hK => ?_) AllReady.nil
      go_simp
      refine hK _ _ ?_
      clear hK K
      refine wpAny_ready (rs := [22]) (by kernel_rfl) (by simp) ?_
      refine AllReady.cons rfl (fun K hK => ?_) AllReady.nil
      go_simp
      go_at_call 23
      refine (Hck.out.2 _ ad cap n down fuse fault (Hd HX.out.d.i).out).mono ?_
      rintro e wz ⟨rfl, hb⟩
      clear p0 p1 p2 p3 q0 q1 q2 q3 r0 r1 r2 r3 t0 t1 t2 t3
      replace HX := Lib.hid (HX.out.under hb)
      replace HG := Lib.hid (HG.out.under hb)
      replace HJ := Lib.hid (HJ.out.under hb)
      replace HL := Lib.hid (HL.out.under hb)
      replace HS1 := Lib.hid (strs_under HS1.out hb)
      replace HS2 := Lib.hid (strs_under HS2.out hb)
      clear hb
      obtain ⟨⟨p0, p1, p2, p3⟩, -⟩ := HX.out.d.d.facts
      obtain ⟨⟨q0, q1, q2, q3⟩, -⟩ := HG.out.d.facts
      obtain ⟨⟨r0, r1, r2, r3⟩, -⟩ := HJ.out.d.facts
      obtain ⟨⟨t0, t1, t2, t3⟩, -⟩ := HL.out.d.facts
      refine hK _ _ ?_
      clear hK K
      refine wpAny_take (i := 23) (v := ?va38) rfl (by kernel_rfl) (by kernel_rfl) (by kernel_rfl) (fun _ _ _ h => h) (Or.inl ⟨by kernel_rfl, ?ha38⟩) ?ra38
      case ha38 => (intro w; go_simp; first | done | (with_reducible rfl))
      refine wpAny_take (i := 24) (v := ?va39) rfl (by kernel_rfl) (by kernel_rfl) (by kernel_rfl) (fun _ _ _ h => h) (Or.inl ⟨by kernel_rfl, ?ha39⟩) ?ra39
      case ha39 => (intro w; go_simp; first | done | (with_reducible rfl))
      refine wpAny_take (i := 25) (v := ?va40) rfl (by kernel_rfl) (by kernel_rfl) (by kernel_rfl) (fun _ _ _ h => h) (Or.inl ⟨by kernel_rfl, ?ha40⟩) ?ra40
      case ha40 => (intro w; go_simp; first | done | (with_reducible rfl))
      refine wpAny_ready (rs := [26, 27]) (by kernel_rfl) (by simp) ?_
      refine AllReady.cons rfl (fun K hK => ?_) ?_
      · skip
        go_simp
        refine hK _ _ ?_
        clear hK K
        refine wpAny_ready (rs := [27]) (by kernel_rfl) (by simp) ?_
        refine AllReady.cons rfl (fun K hK => ?_) AllReady.nil
        go_simp
        refine hK _ _ ?_
        clear hK K
        refine wpAny_ready (rs := [28]) (by kernel_rfl) (by simp) ?_
        refine AllReady.cons rfl (fun K hK => ?_) AllReady.nil
        go_simp
        go_at_call 20
        refine (same_yes _ adg ad n capg n cap down fuse fault fs HG.out.i HX.out.d.i hn63).mono ?_
        rintro e wz ⟨rfl, hb⟩
        clear p0 p1 p2 p3 q0 q1 q2 q3 r0 r1 r2 r3 t0 t1 t2 t3
        replace HX := Lib.hid (HX.out.under hb)
        replace HG := Lib.hid (HG.out.under hb)
        replace HJ := Lib.hid (HJ.out.under hb)
        replace HL := Lib.hid (HL.out.under hb)
        replace HS1 := Lib.hid (strs_under HS1.out hb)
        replace HS2 := Lib.hid (strs_under HS2.out hb)
        clear hb
        obtain ⟨⟨p0, p1, p2, p3⟩, -⟩ := HX.out.d.d.facts
        obtain ⟨⟨q0, q1, q2, q3⟩, -⟩ := HG.out.d.facts
        obtain ⟨⟨r0, r1, r2, r3⟩, -⟩ := HJ.out.d.facts
        obtain ⟨⟨t0, t1, t2, t3⟩, -⟩ := HL.out.d.facts
        refine hK _ _ ?_
        clear hK K
        refine wpAny_take (i := 29) (v := ?va41) rfl (by kernel_rfl) (by kernel_rfl) (by kernel_rfl) (fun _ _ _ h => h) (Or.inl ⟨by kernel_rfl, ?ha41⟩) ?ra41
        case ha41 => (intro w; go_simp; first | done | (with_reducible rfl))
        refine wpAny_ready (rs := [30]) (by kernel_rfl) (by simp) ?_
        refine AllReady.cons rfl (fun K hK => ?_) AllReady.nil
        go_simp
        refine hK _ _ ?_
        clear hK K
        refine wpAny_done (by kernel_rfl) ?_ _
        try go_simp
        go_wp2
        go_ret
        exact ⟨rfl, HX.out.b⟩
      refine AllReady.cons rfl (fun K hK => ?_) AllReady.nil
      go_simp
      refine hK _ _ ?_
      clear hK K
      refine wpAny_ready (rs := [26]) (by kernel_rfl) (by simp) ?_
      refine AllReady.cons rfl (fun K hK => ?_) AllReady.nil
      go_simp
      refine hK _ _ ?_
      clear hK K
      refine wpAny_ready (rs := [28]) (by kernel_rfl) (by simp) ?_
      refine AllReady.cons rfl (fun K hK => ?_) AllReady.nil
      go_simp
      go_at_call 20
      refine (same_yes _ adg ad n capg n cap down fuse fault fs HG.out.i HX.out.d.i hn63).mono ?_
      rintro e wz ⟨rfl, hb⟩
      clear p0 p1 p2 p3 q0 q1 q2 q3 r0 r1 r2 r3 t0 t1 t2 t3
      replace HX := Lib.hid (HX.out.under hb)
      replace HG := Lib.hid (HG.out.under hb)
      replace HJ := Lib.hid (HJ.out.under hb)
      replace HL := Lib.hid (HL.out.under hb)
      replace HS1 := Lib.hid (strs_under HS1.out hb)
      replace HS2 := Lib.hid (strs_under HS2.out hb)
      clear hb
      obtain ⟨⟨p0, p1, p2, p3⟩, -⟩ := HX.out.d.d.facts
      obtain ⟨⟨q0, q1, q2, q3⟩, -⟩ := HG.out.d.facts
      obtain ⟨⟨r0, r1, r2, r3⟩, -⟩ := HJ.out.d.facts
      obtain ⟨⟨t0, t1, t2, t3⟩, -⟩ := HL.out.d.facts
      refine hK _ _ ?_
      clear hK K
      refine wpAny_take (i := 29) (v := ?va42) rfl (by kernel_rfl) (by kernel_rfl) (by kernel_rfl) (fun _ _ _ h => h) (Or.inl ⟨by kernel_rfl, ?ha42⟩) ?ra42
      case ha42 => (intro w; go_simp; first | done | (with_reducible rfl))
      refine wpAny_ready (rs := [30]) (by kernel_rfl) (by simp) ?_
      refine AllReady.cons rfl (fun K hK => ?_) AllReady.nil
      go_simp
      refine hK _ _ ?_
      clear hK K
      refine wpAny_done (by kernel_rfl) ?_ _
      try go_simp
      go_wp2
      go_ret
      exact ⟨rfl, HX.out.b⟩
    refine AllReady.cons rfl (fun K hK => ?_) AllReady.nil
    go_simp
    refine hK _ _ ?_
    clear hK K
    refine wpAny_ready (rs := [20]) (by kernel_rfl) (by simp) ?_
    refine AllReady.cons rfl (fun K hK => ?_) AllReady.nil
    go_simp
    go_at_call 22
    refine (Hck.out.1 _ adg capg n down fuse fault (Hd HG.out.i).out).mono ?_
    rintro e wz ⟨rfl, hb⟩
    clear p0 p1 p2 p3 q0 q1 q2 q3 r0 r1 r2 r3 t0 t1 t2 t3
    replace HX := Lib.hid (HX.out.under hb)
    replace HG := Lib.hid (HG.out.under hb)
    replace HJ := Lib.hid (HJ.out.under hb)
    replace HL := Lib.hid (HL.out.under hb)
    replace HS1 := Lib.hid (strs_under HS1.out hb)
    replace HS2 := Lib.hid (strs_under HS2.out hb)
    clear hb
    obtain ⟨⟨p0, p1, p2, p3⟩, -⟩ := HX.out.d.d.facts
    obtain ⟨⟨q0, q1, q2, q3⟩, -⟩ := HG.out.d.facts
    obtain ⟨⟨r0, r1, r2, r3⟩, -⟩ := HJ.out.d.facts
    obtain ⟨⟨t0, t1, t2, t3⟩, -⟩ := HL.out.d.facts
    refine hK _ _ ?_
    clear hK K
    refine wpAny_ready (rs := [22]) (by kernel_rfl) (by simp) ?_
    refine AllReady.cons rfl (fun K hK => ?_) AllReady.nil
    go_simp
    go_at_call 23
    refine (Hck.out.2 _ ad cap n down fuse fault (Hd HX.out.d.i).out).mono ?_
    rintro e wz ⟨rfl, hb⟩
    clear p0 p1 p2 p3 q0 q1 q2 q3 r0 r1 r2 r3 t0 t1 t2 t3
    replace HX := Lib.hid (HX.out.under hb)
    replace HG := Lib.hid (HG.out.under hb)
    replace HJ := Lib.hid (HJ.out.under hb)
    replace HL := Lib.hid (HL.out.under hb)
    replace HS1 := Lib.hid (strs_under HS1.out hb)
    replace HS2 := Lib.hid (strs_under HS2.out hb)
    clear hb
    obtain ⟨⟨p0, p1, p2, p3⟩, -⟩ := HX.out.d.d.facts
    obtain ⟨⟨q0, q1, q2, q3⟩, -⟩ := HG.out.d.facts
    obtain ⟨⟨r0, r1, r2, r3⟩, -⟩ := HJ.out.d.facts
    obtain ⟨⟨t0, t1, t2, t3⟩, -⟩ := HL.out.d.facts
    refine hK _ _ ?_
    clear hK K
    refine wpAny_take (i := 23) (v := ?va43) rfl (by kernel_rfl) (by kernel_rfl) (by kernel_rfl) (fun _ _ _ h => h) (Or.inl ⟨by kernel_rfl, ?ha43⟩) ?ra43
    case ha43 => (intro w; go_simp; first | done | (with_reducible rfl))
    refine wpAny_take (i := 24) (v := ?va44) rfl (by kernel_rfl) (by kernel_rfl) (by kernel_rfl) (fun _ _ _ h => h) (Or.inl ⟨by kernel_rfl, ?ha44⟩) ?ra44
    case ha44 => (intro w; go_simp; first | done | (with_reducible rfl))
    refine wpAny_take (i := 25) (v := ?va45) rfl (by kernel_rfl) (by kernel_rfl) (by kernel_rfl) (fun _ _ _ h => h) (Or.inl ⟨by kernel_rfl, ?ha45⟩) ?ra45
    case ha45 => (intro w; go_simp; first | done | (with_reducible rfl))
    refine wpAny_ready (rs := [26, 27]) (by kernel_rfl) (by simp) ?_
    refine AllReady.cons rfl (fun K hK => ?_) ?_
    · skip
      go_simp
      refine hK _ _ ?_
      clear hK K
      refine wpAny_ready (rs := [27]) (by kernel_rfl) (by simp) ?_
      refine AllReady.cons rfl (fun K hK => ?_) AllReady.nil
      go_simp
      refine hK _ _ ?_
      clear hK K
      refine wpAny_ready (rs := [28]) (by kernel_rfl) (by simp) ?_
      refine AllReady.cons rfl (fun K hK => ?_) AllReady.nil
      go_simp
      go_at_call 20
      refine (same_yes _ adg ad n capg n cap down fuse fault fs HG.out.i HX.out.d.i hn63).mono ?_
      rintro e wz ⟨rfl, hb⟩
      clear p0 p1 p2 p3 q0 q1 q2 q3 r0 r1 r2 r3 t0 t1 t2 t3
      replace HX := Lib.hid (HX.out.under hb)
      replace HG := Lib.hid (HG.out.under hb)
      replace HJ := Lib.hid (HJ.out.under hb)
      replace HL := Lib.hid (HL.out.under hb)
      replace HS1 := Lib.hid (strs_under HS1.out hb)
      replace HS2 := Lib.hid (strs_under HS2.out hb)
      clear hb
      obtain ⟨⟨p0, p1, p2, p3⟩, -⟩ := HX.out.d.d.facts
      obtain ⟨⟨q0, q1, q2, q3⟩, -⟩ := HG.out.d.facts
      obtain ⟨⟨r0, r1, r2, r3⟩, -⟩ := HJ.out.d.facts
      obtain ⟨⟨t0, t1, t2, t3⟩, -⟩ := HL.out.d.facts
      refine hK _ _ ?_
      clear hK K
      refine wpAny_take (i := 29) (v := ?va46) rfl (by kernel_rfl) (by kernel_rfl) (by kernel_rfl) (fun _ _ _ h => h) (Or.inl ⟨by kernel_rfl, ?ha46⟩) ?ra46
      case ha46 => (intro w; go_simp; first | done | (with_reducible rfl))
      refine wpAny_ready (rs := [30]) (by kernel_rfl) (by simp) ?_
      refine AllReady.cons rfl (fun K hK => ?_) AllReady.nil
      go_simp
      refine hK _ _ ?_
      clear hK K
      refine wpAny_done (by kernel_rfl) ?_ _
      try go_simp
      go_wp2
      go_ret
      exact ⟨rfl, HX.out.b⟩
    refine AllReady.cons rfl (fun K hK => ?_) AllReady.nil
    go_simp
    refine hK _ _ ?_
    clear hK K
    refine wpAny_ready (rs := [26]) (by kernel_rfl) (by simp) ?_
    refine AllReady.cons rfl (fun K hK => ?_) AllReady.nil
    go_simp
    refine hK _ _ ?_
    clear hK K
    refine wpAny_ready (rs := [28]) (by kernel_rfl) (by simp) ?_
    refine AllReady.cons rfl (fun K hK => ?_) AllReady.nil
    go_simp
    go_at_call 20
    refine (same_yes _ adg ad n capg n cap down fuse fault fs HG.out.i HX.out.d.i hn63).mono ?_
    rintro e wz ⟨rfl, hb⟩
    clear p0 p1 p2 p3 q0 q1 q2 q3 r0 r1 r2 r3 t0 t1 t2 t3
    replace HX := Lib.hid (HX.out.under hb)
    replace HG := Lib.hid (HG.out.under hb)
    replace HJ := Lib.hid (HJ.out.under hb)
    replace HL := Lib.hid (HL.out.under hb)
    replace HS1 := Lib.hid (strs_under HS1.out hb)
    replace HS2 := Lib.hid (strs_under HS2.out hb)
    clear hb
    obtain ⟨⟨p0, p1, p2, p3⟩, -⟩ := HX.out.d.d.facts
    obtain ⟨⟨q0, q1, q2, q3⟩, -⟩ := HG.out.d.facts
    obtain ⟨⟨r0, r1, r2, r3⟩, -⟩ := HJ.out.d.facts
    obtain ⟨⟨t0, t1, t2, t3⟩, -⟩ := HL.out.d.facts
    refine hK _ _ ?_
    clear hK K
    refine wpAny_take (i := 29) (v := ?va47) rfl (by kernel_rfl) (by kernel_rfl) (by kernel_rfl) (fun _ _ _ h => h) (Or.inl ⟨by kernel_rfl, ?ha47⟩) ?ra47
    case ha47 => (intro w; go_simp; first | done | (with_reducible rfl))
    refine wpAny_ready (rs := [30]) (by kernel_rfl) (by simp) ?_
    refine AllReady.cons rfl (fun K hK => ?_) AllReady.nil
    go_simp
    refine hK _ _ ?_
    clear hK K
    refine wpAny_done (by kernel_rfl) ?_ _
    try go_simp
    go_wp2
    go_ret
    exact ⟨rfl, HX.out.b⟩
  refine AllReady.cons rfl (fun K hK => ?_) AllReady.nil
  go_simp
  refine hK _ _ ?_
  clear hK K
  refine wpAny_ready (rs := [19]) (by kernel_rfl) (by simp) ?_
  refine AllReady.cons rfl (fun K hK => ?_) AllReady.nil
  go_simp
  refine hK _ _ ?_
  clear hK K
  refine wpAny_ready (rs := [20]) (by kernel_rfl) (by simp) ?_
  refine AllReady.cons rfl (fun K hK => ?_) AllReady.nil
  go_simp
  go_at_call 22
  refine (Hck.out.1 _ adg capg n down fuse fault (Hd HG.out.i).out).mono ?_
  rintro e wz ⟨rfl, hb⟩
  clear p0 p1 p2 p3 q0 q1 q2 q3 r0 r1 r2 r3 t0 t1 t2 t3
  replace HX := Lib.hid (HX.out.under hb)
  replace HG := Lib.hid (HG.out.under hb)
  replace HJ := Lib.hid (HJ.out.under hb)
  replace HL := Lib.hid (HL.out.under hb)
  replace HS1 := Lib.hid (strs_under HS1.out hb)
  replace HS2 := Lib.hid (strs_under HS2.out hb)
  clear hb
  obtain ⟨⟨p0, p1, p2, p3⟩, -⟩ := HX.out.d.d.facts
  obtain ⟨⟨q0, q1, q2, q3⟩, -⟩ := HG.out.d.facts
  obtain ⟨⟨r0, r1, r2, r3⟩, -⟩ := HJ.out.d.facts
  obtain ⟨⟨t0, t1, t2, t3⟩, -⟩ := HL.out.d.facts
  refine hK _ _ ?_
  clear hK K
  refine wpAny_ready (rs := [22]) (by kernel_rfl) (by simp) ?_
  refine AllReady.cons rfl (fun K hK => ?_) AllReady.nil
  go_simp
  go_at_call 23
  refine (Hck.out.2 _ ad cap n down fuse fault (Hd HX.out.d.i).out).mono ?_
  rintro e wz ⟨rfl, hb⟩
  clear p0 p1 p2 p3 q0 q1 q2 q3 r0 r1 r2 r3 t0 t1 t2 t3
  replace HX := Lib.hid (HX.out.under hb)
  replace HG := Lib.hid (HG.out.under hb)
  replace HJ := Lib.hid (HJ.out.under hb)
  replace HL := Lib.hid (HL.out.under hb)
  replace HS1 := Lib.hid (strs_under HS1.out hb)
  replace HS2 := Lib.hid (strs_under HS2.out hb)
  clear hb
  obtain ⟨⟨p0, p1, p2, p3⟩, -⟩ := HX.out.d.d.facts
  obtain ⟨⟨q0, q1, q2, q3⟩, -⟩ := HG.out.d.facts
  obtain ⟨⟨r0, r1, r2, r3⟩, -⟩ := HJ.out.d.facts
  obtain ⟨⟨t0, t1, t2, t3⟩, -⟩ := HL.out.d.facts
  refine hK _ _ ?_
  clear hK K
  refine wpAny_take (i := 23) (v := ?va48) rfl (by kernel_rfl) (by kernel_rfl) (by kernel_rfl) (fun _ _ _ h => h) (Or.inl ⟨by kernel_rfl, ?ha48⟩) ?ra48
  case ha48 => (intro w; go_simp; first | done | (with_reducible rfl))
  refine wpAny_take (i := 24) (v := ?va49) rfl (by kernel_rfl) (by kernel_rfl) (by kernel_rfl) (fun _ _ _ h => h) (Or.inl ⟨by kernel_rfl, ?ha49⟩) ?ra49
  case ha49 => (intro w; go_simp; first | done | (with_reducible rfl))
  refine wpAny_take (i := 25) (v := ?va50) rfl (by kernel_rfl) (by kernel_rfl) (by kernel_rfl) (fun _ _ _ h => h) (Or.inl ⟨by kernel_rfl, ?ha50⟩) ?ra50
  case ha50 => (intro w; go_simp; first | done | (with_reducible rfl))
  refine wpAny_ready (rs := [26, 27]) (by kernel_rfl) (by simp) ?_
  refine AllReady.cons rfl (fun K hK => ?_) ?_
  · skip
    go_simp
    refine hK _ _ ?_
    clear hK K
    refine wpAny_ready (rs := [27]) (by kernel_rfl) (by simp) ?_
    refine AllReady.cons rfl (fun K hK => ?_) AllReady.nil
    go_simp
    refine hK _ _ ?_
    clear hK K
    refine wpAny_ready (rs := [28]) (by kernel_rfl) (by simp) ?_
    refine AllReady.cons rfl (fun K hK => ?_) AllReady.nil
    go_simp
    go_at_call 20
    refine (same_yes _ adg ad n capg n cap down fuse fault fs HG.out.i HX.out.d.i hn63).mono ?_
    rintro e wz ⟨rfl, hb⟩
    clear p0 p1 p2 p3 q0 q1 q2 q3 r0 r1 r2 r3 t0 t1 t2 t3
    replace HX := Lib.hid (HX.out.under hb)
    replace HG := Lib.hid (HG.out.under hb)
    replace HJ := Lib.hid (HJ.out.under hb)
    replace HL := Lib.hid (HL.out.under hb)
    replace HS1 := Lib.hid (strs_under HS1.out hb)
    replace HS2 := Lib.hid (strs_under HS2.out hb)
    clear hb
    obtain ⟨⟨p0, p1, p2, p3⟩, -⟩ := HX.out.d.d.facts
    obtain ⟨⟨q0, q1, q2, q3⟩, -⟩ := HG.out.d.facts
    obtain ⟨⟨r0, r1, r2, r3⟩, -⟩ := HJ.out.d.facts
    obtain ⟨⟨t0, t1, t2, t3⟩, -⟩ := HL.out.d.facts
    refine hK _ _ ?_
    clear hK K
    refine wpAny_take (i := 29) (v := ?va51) rfl (by kernel_rfl) (by kernel_rfl) (by kernel_rfl) (fun _ _ _ h => h) (Or.inl ⟨by kernel_rfl, ?ha51⟩) ?ra51
    case ha51 => (intro w; go_simp; first | done | (with_reducible rfl))
    refine wpAny_ready (rs := [30]) (by kernel_rfl) (by simp) ?_
    refine AllReady.cons rfl (fun K hK => ?_) AllReady.nil
    go_simp
    refine hK _ _ ?_
    clear hK K
    refine wpAny_done (by kernel_rfl) ?_ _
    try go_simp
    go_wp2
    go_ret
    exact ⟨rfl, HX.out.b⟩
  refine AllReady.cons rfl (fun K hK => ?_) AllReady.nil
  go_simp
  refine hK _ _ ?_
  clear hK K
  refine wpAny_ready (rs := [26]) (by kernel_rfl) (by simp) ?_
  refine AllReady.cons rfl (fun K hK => ?_) AllReady.nil
  go_simp
  refine hK _ _ ?_
  clear hK K
  refine wpAny_ready (rs := [28]) (by kernel_rfl) (by simp) ?_
  refine AllReady.cons rfl (fun K hK => ?_) AllReady.nil
  go_simp
  go_at_call 20
  refine (same_yes _ adg ad n capg n cap down fuse fault fs HG.out.i HX.out.d.i hn63).mono ?_
  rintro e wz ⟨rfl, hb⟩
  clear p0 p1 p2 p3 q0 q1 q2 q3 r0 r1 r2 r3 t0 t1 t2 t3
  replace HX := Lib.hid (HX.out.under hb)
  replace HG := Lib.hid (HG.out.under hb)
  replace HJ := Lib.hid (HJ.out.under hb)
  replace HL := Lib.hid (HL.out.under hb)
  replace HS1 := Lib.hid (strs_under HS1.out hb)
  replace HS2 := Lib.hid (strs_under HS2.out hb)
  clear hb
  obtain ⟨⟨p0, p1, p2, p3⟩, -⟩ := HX.out.d.d.facts
  obtain ⟨⟨q0, q1, q2, q3⟩, -⟩ := HG.out.d.facts
  obtain ⟨⟨r0, r1, r2, r3⟩, -⟩ := HJ.out.d.facts
  obtain ⟨⟨t0, t1, t2, t3⟩, -⟩ := HL.out.d.facts
  refine hK _ _ ?_
  clear hK K
  refine wpAny_take (i := 29) (v := ?va52) rfl (by kernel_rfl) (by kernel_rfl) (by kernel_rfl) (fun _ _ _ h => h) (Or.inl ⟨by kernel_rfl, ?ha52⟩) ?ra52
  case ha52 => (intro w; go_simp; first | done | (with_reducible rfl))
  refine wpAny_ready (rs := [30]) (by kernel_rfl) (by simp) ?_
  refine AllReady.cons rfl (fun K hK => ?_) AllReady.nil
  go_simp
  refine hK _ _ ?_
  clear hK K
  refine wpAny_done (by kernel_rfl) ?_ _
  try go_simp
  go_wp2
  go_ret
  exact ⟨rfl, HX.out.b⟩
theorem laidOut : laidOutB Try.prog = true := by kernel_rfl

set_option maxRecDepth 100000 in
theorem lifted (os : Os) (started : os.Started) (H : Type) (enc : TypeId × Value → H) :
    ReturnsInHanded {} Try.checked os 3 .any (Rows.diskDoesSpec.pre6 enc Try.prog Try.f3 Rows.diskDoesRow.domain false) (Rows.diskDoesSpec.post enc Try.prog Try.f3 false true false false) := by
  refine returnsInHanded_of_change_sized (C := Try.checked) own started (by kernel_rfl) Try.func3
    (ChangeSpec.witness6 (enc := enc) (C := Try.checked) false ⟨#[], #[.agg #[.slice none 0 0, .bool false, .int .i64 0, .int .i64 0], .agg #[.int .u8 0, .string ByteArray.empty, .string ByteArray.empty, .int .i64 0], .string ByteArray.empty, .slice none 0 0], []⟩ 8 (by kernel_rfl) (by kernel_rfl) (by kernel_rfl) (by kernel_rfl)) ?_
  intro W base args ds gs before hval0 hW hcnd hsz _
  have hval : ∀ (j : Nat) t v, Try.f3.params[j]? = some t → args[j]? = some v → Value.okWide Try.prog W .any base t v := hval0
  have hW' := hW
  obtain ⟨p, q, hA0, hV, rfl, hfz, hnd⟩ := hW
  have hA : DataW.TrodAll enc Try.prog W 0 (fun _ => true) true Try.f3.params.toList args.toList ds p := hA0
  rw [Try.params3] at hA hval hsz
  obtain ⟨v0, vs0, d0, ds0, p0, q0, hargs, rfl, rfl, h0, r0⟩ := trodAll_cons hA
  obtain ⟨v1, vs1, d1, ds1, p1, q1, rfl, rfl, rfl, h1, r1⟩ := trodAll_cons r0
  obtain ⟨v2, vs2, d2, ds2, p2, q2, rfl, rfl, rfl, h2, r2⟩ := trodAll_cons r1
  obtain ⟨v3, vs3, d3, ds3, p3, q3, rfl, rfl, rfl, h3, r3⟩ := trodAll_cons r2
  obtain ⟨rfl, rfl, rfl⟩ := trodAll_nil r3
  obtain rfl : args = #[v0, v1, v2, v3] := by cases args; simp_all
  obtain ⟨rfl, rfl⟩ := trodVars_none hV
  have k0 := h0
  have lt0 : ∀ x ∈ p0, x.block < W.heap.size := by obtain ⟨m, hm⟩ := k0; exact DataW.trod_lt m _ _ _ hm
  have k1 := h1
  have lt1 : ∀ x ∈ p1, x.block < W.heap.size := by obtain ⟨m, hm⟩ := k1; exact DataW.trod_lt m _ _ _ hm
  have k2 := h2
  have lt2 : ∀ x ∈ p2, x.block < W.heap.size := by obtain ⟨m, hm⟩ := k2; exact DataW.trod_lt m _ _ _ hm
  have k3 := h3
  have lt3 : ∀ x ∈ p3, x.block < W.heap.size := by obtain ⟨m, hm⟩ := k3; exact DataW.trod_lt m _ _ _ hm
  obtain ⟨ad, n, cap, down, fuse, fault, fs, rfl, hD, h40⟩ := open_disk_wt (hval 0 24 v0 rfl rfl) h0 (fun k hk => of_decide_eq_true (List.all_eq_true.1 hsz k (DataW.weights_mem_each (j := 0) rfl rfl k hk)))
  obtain ⟨k, nm, dt, z, rfl, hn, hd, _, _, hz0, hz1⟩ := open_step (hval 1 27 v1 rfl rfl) h1
  obtain ⟨b, rfl, rfl, rfl, hbs⟩ := open_string Try.underlying9 (hval 2 9 v2 rfl rfl) h2
  obtain ⟨adk, nk, capk, ks, rfl, hnk, hks, hnk63⟩ := open_nums (hval 3 28 v3 rfl rfl) h3
  clear hA0 hval0
  refine (walk W ad n cap down fuse fault fs k nm dt z b adk nk capk ks hD h40 hn hd hz0 hz1 (by simpa [maxLen] using hbs) hks hnk hnk63).mono fun e W' ⟨he, bel⟩ => ?_
  subst he
  exact ⟨_, rfl, _, _, _, [], _, [], hW', trodAll_mk1 (shut_bool Try.underlying4 _), (trodAll_cons_mk (Below.trod laidOut (by kernel_rfl) (of_decide_eq_true (by kernel_rfl)) k0 bel lt0) (trodAll_cons_mk (Below.trod laidOut (by kernel_rfl) (of_decide_eq_true (by kernel_rfl)) k1 bel lt1) (trodAll_cons_mk (shut_string Try.underlying9 hbs) (trodAll_cons_mk (Below.trod laidOut (by kernel_rfl) (of_decide_eq_true (by kernel_rfl)) k3 bel lt3) trodAll_mk0)))), rfl, bel.frame _, fun h => by cases h⟩

theorem over : Rows.diskDoesRow.holds Try.pinned (OpenSpec.ofChange Rows.diskDoesSpec) :=
  OpenClaim.holds_of_wide 3 Try.f3 rfl rfl rfl rfl rfl rfl rfl ⟨rfl, rfl, rfl, rfl, rfl⟩ rfl rfl rfl rfl rfl (by kernel_rfl) Try.func3 (by kernel_rfl)
    (of_decide_eq_true (by kernel_rfl)) (by unfold Func.isWrapper; rw [if_neg (by decide +kernel)]; exact ⟨rfl, rfl⟩)
    (fun os started H enc _ => lifted os started H enc)

theorem proved : Rows.DiskDoesSaid := over
#print axioms proved
end Go.Proofs.Ytcefhcailhediaa.diskDoes
