/- MESSAGES OF VALUES: the document's message, values without parts, WALKED. -/
import Derived.Test.YtnnnnlcpmocnfaaGreatDoorAll
import Derived.Test.YtnnnnlcpmocnfaaGreatDoorWw3
import Derived.Outline
import Derived.WalkLawsBesides
namespace Go.Proofs.YtnnnnlcpmocnfaaGreatDoor
open Go.RowKit
set_option linter.unusedVariables false
set_option linter.unusedSimpArgs false
attribute [local go_sem] run_store_float

/-- what the document's writing leaves -/
def dtup (r : Res) : Value := match r with | .ok t => .tuple #[.string ⟨t.toArray⟩, .int .i64 0] | .error c => .tuple #[.string ⟨#[]⟩, .int .i64 (c : Int)]
def DW (r : Res) (w : World) (e : Ending) (w' : World) : Prop := e = .returned (dtup r) ∧ Below w.heap.size w w'
theorem dtup_form (r : Res) : ∃ S E, dtup r = .tuple #[.string S, .int .i64 E] := by
  cases r with
  | ok t => exact ⟨_, _, rfl⟩
  | error c => exact ⟨_, _, rfl⟩
theorem dtup_wr (fs : List M.Fd) : (.tuple #[.string ⟨(M.wr fs).2.toArray⟩, .int .i64 (M.wr fs).1] : Value) = dtup (wrE fs) := by
  rcases wrE_cases fs with ⟨c, hc, h1, h2⟩ | ⟨h1, h2, _⟩
  · rw [h1, h2]; rfl
  · rw [h1, h2]; rfl
theorem dwr_row {W : World} {base : Nat} {v : Value} {fs : List M.Fd} (h : FRow W base v fs) (hf : ∀ f ∈ fs, Fine f) (hl : fs.length ≤ 9223372036854775807) : Calls Tryz.prog 56 #[v] W (DW (wrE fs) W) := by
  obtain ⟨ad, cap, rfl, hfl⟩ := h.flds hf hl
  exact (rwrite_any W ad cap fs.length fs rfl hfl).mono fun e w' ⟨he, hb⟩ => ⟨by rw [he, dtup_wr], hb⟩
/-- as the walk wants it -/
def DT (S : ByteArray) (E : Int) (w : World) (e : Ending) (w' : World) : Prop := e = .returned (.tuple #[.string S, .int .i64 E]) ∧ Below w.heap.size w w'
theorem DT.of {r : Res} {S : ByteArray} {E : Int} (h : dtup r = .tuple #[.string S, .int .i64 E]) {w : World} {e : Ending} {w' : World} (hd : DW r w e w') : DT S E w e w' := ⟨by rw [hd.1, h], hd.2⟩
theorem DT.to {r : Res} {S : ByteArray} {E : Int} (h : dtup r = .tuple #[.string S, .int .i64 E]) {w : World} {w' : World} (hb : Below w.heap.size w w') : DW r w (.returned (.tuple #[.string S, .int .i64 E])) w' := ⟨by rw [h], hb⟩

theorem dbytes_any (n : Int) (s : ByteArray) (w : World) : Calls Tryz.prog 55 #[.int .i64 n, .string s] w fun e w' => e = .returned (.agg #[.int .i64 n, .int .u8 2, .int .u64 0, .string s]) ∧ Below w.heap.size w w' := by
  go_enter Tryz.func55, Tryz.ntmps55
  go_wp2
  exact bodyPost_ret (v := .agg #[.int .i64 n, .int .u8 2, .int .u64 0, .string s]) (by simp [results, Tryz.results55, go_sem]) rfl ⟨rfl, (Below.refl _ _).alloc (Nat.le_refl _) _⟩
theorem one_fine {f : M.Fd} (h : Fine f) : ∀ g ∈ [f], Fine g := fun g hg => by simp at hg; subst hg; exact h

set_option maxRecDepth 100000 in
set_option maxHeartbeats 4000000 in
theorem dm_text (s : ByteArray) (b : Bool) (n : Int) (f m1 m2 c1 c2 : Nat) (a1 a2 : Option Addr) (hs : s.size ≤ 4096) (w : World) :
    Calls Tryz.prog 21 #[.agg (gv 1 s b n f (.slice a1 m1 c1) (.slice a2 m2 c2))] w (DW (wrE [bf 1 s.data.toList]) w) := by
  obtain ⟨S, E, hSE⟩ := dtup_form (wrE [bf 1 s.data.toList])
  have hw : ∀ (W : World) (base : Nat) (v : Value), FRow W base v [bf 1 s.data.toList] → Calls Tryz.prog 56 #[v] W (DT S E W) := fun W base v h => (dwr_row h (one_fine (fine_bf 1 s.data.toList (by omega) (by have : s.data.toList.length = s.size := rfl; omega))) (by simp)).mono fun _ _ => DT.of hSE
  have Hw := Lib.hid hw
  have HSE := Lib.hid hSE
  have Hcs := Lib.hid (show (#[.int .i64 1, .int .u8 2, .int .u64 0, .string s] : Array Value).toList = fc (bf 1 s.data.toList) from cs_key 1 s)
  clear hSE hw
  go_enter Tryz.func21, Tryz.ntmps21
  go_wp2_with fail
  refine (dbytes_any _ _ _).mono ?_
  rintro e w2 ⟨rfl, hb2⟩
  have hs2 : w.heap.size ≤ w2.heap.size := by have := hb2.size; simp at this; omega
  have Hbel2 := Lib.hid (show Below w.heap.size w w2 from (al w _).trans (hb2.mono (by simp)))
  have Hs2 := Lib.hid hs2
  clear hb2 hs2
  go_wp2_with (at_builtin; refine wp_app_fd rfl _ _ rfl w.heap.size _ [] rfl (FRow.nil _ _) (bf 1 s.data.toList) (#[.int .i64 1, .int .u8 2, .int .u64 0, .string s]) Hcs.out _ rfl (by simp) (by simp) (by first | exact Hs2.out | (simp; done) | (simp; omega)) ?_)
  intro v2 w3 hrow3 hgr3
  have Hrow := Lib.hid (show FRow w3 w.heap.size v2 [bf 1 s.data.toList] from hrow3)
  have Hb3 := Lib.hid (show Below w.heap.size w w3 from Below.trans (by first | exact Hbel2.out | go_grown) (hgr3.below (by first | exact Hs2.out | (simp; done) | (simp; omega)) (fun k hk => by simp [Value.ownBlock] at hk)))
  clear hrow3 hgr3
  go_wp2_with fail
  refine (Hw.out _ _ _ Hrow.out).mono ?_
  rintro e w4 ⟨rfl, hb4⟩
  go_wp2
  go_ret2
  exact DT.to HSE.out (Hb3.out.trans (hb4.mono Hb3.out.size))

set_option maxRecDepth 100000 in
set_option maxHeartbeats 4000000 in
theorem dm_bytes (s : ByteArray) (b : Bool) (n : Int) (f m1 m2 c1 c2 : Nat) (a1 a2 : Option Addr) (hs : s.size ≤ 4096) (w : World) :
    Calls Tryz.prog 21 #[.agg (gv 7 s b n f (.slice a1 m1 c1) (.slice a2 m2 c2))] w (DW (wrE [bf 7 s.data.toList]) w) := by
  obtain ⟨S, E, hSE⟩ := dtup_form (wrE [bf 7 s.data.toList])
  have hw : ∀ (W : World) (base : Nat) (v : Value), FRow W base v [bf 7 s.data.toList] → Calls Tryz.prog 56 #[v] W (DT S E W) := fun W base v h => (dwr_row h (one_fine (fine_bf 7 s.data.toList (by omega) (by have : s.data.toList.length = s.size := rfl; omega))) (by simp)).mono fun _ _ => DT.of hSE
  have Hw := Lib.hid hw
  have HSE := Lib.hid hSE
  have Hcs := Lib.hid (show (#[.int .i64 7, .int .u8 2, .int .u64 0, .string s] : Array Value).toList = fc (bf 7 s.data.toList) from cs_key 7 s)
  clear hSE hw
  go_enter Tryz.func21, Tryz.ntmps21
  go_wp2_with fail
  refine (dbytes_any _ _ _).mono ?_
  rintro e w2 ⟨rfl, hb2⟩
  have hs2 : w.heap.size ≤ w2.heap.size := by have := hb2.size; simp at this; omega
  have Hbel2 := Lib.hid (show Below w.heap.size w w2 from (al w _).trans (hb2.mono (by simp)))
  have Hs2 := Lib.hid hs2
  clear hb2 hs2
  go_wp2_with (at_builtin; refine wp_app_fd rfl _ _ rfl w.heap.size _ [] rfl (FRow.nil _ _) (bf 7 s.data.toList) (#[.int .i64 7, .int .u8 2, .int .u64 0, .string s]) Hcs.out _ rfl (by simp) (by simp) (by first | exact Hs2.out | (simp; done) | (simp; omega)) ?_)
  intro v2 w3 hrow3 hgr3
  have Hrow := Lib.hid (show FRow w3 w.heap.size v2 [bf 7 s.data.toList] from hrow3)
  have Hb3 := Lib.hid (show Below w.heap.size w w3 from Below.trans (by first | exact Hbel2.out | go_grown) (hgr3.below (by first | exact Hs2.out | (simp; done) | (simp; omega)) (fun k hk => by simp [Value.ownBlock] at hk)))
  clear hrow3 hgr3
  go_wp2_with fail
  refine (Hw.out _ _ _ Hrow.out).mono ?_
  rintro e w4 ⟨rfl, hb4⟩
  go_wp2
  go_ret2
  exact DT.to HSE.out (Hb3.out.trans (hb4.mono Hb3.out.size))

set_option maxRecDepth 100000 in
set_option maxHeartbeats 4000000 in
theorem dm_yes (s : ByteArray) (b : Bool) (n : Int) (f m1 m2 c1 c2 : Nat) (a1 a2 : Option Addr)  (w : World) :
    Calls Tryz.prog 21 #[.agg (gv 2 s true n f (.slice a1 m1 c1) (.slice a2 m2 c2))] w (DW (wrE [⟨2, 0, 1, []⟩]) w) := by
  obtain ⟨S, E, hSE⟩ := dtup_form (wrE [⟨2, 0, 1, []⟩])
  have hw : ∀ (W : World) (base : Nat) (v : Value), FRow W base v [⟨2, 0, 1, []⟩] → Calls Tryz.prog 56 #[v] W (DT S E W) := fun W base v h => (dwr_row h (one_fine ⟨_, _, _, _, (⟨rfl, by decide, by decide, by decide, by decide, by decide, by decide, by decide⟩ : Fit _ 2 0 1 [])⟩) (by simp)).mono fun _ _ => DT.of hSE
  have Hw := Lib.hid hw
  have HSE := Lib.hid hSE
  have Hcs := Lib.hid (show (fcells 2 0 1 [] : Array Value).toList = fc (⟨2, 0, 1, []⟩) from rfl)
  clear hSE hw
  go_enter Tryz.func21, Tryz.ntmps21
  go_wp2_with (at_builtin; refine wp_app_fd rfl _ _ rfl w.heap.size _ [] rfl (FRow.nil _ _) (⟨2, 0, 1, []⟩) (fcells 2 0 1 []) Hcs.out _ rfl (by simp) (by simp) (by first | exact Hs2.out | (simp; done) | (simp; omega)) ?_)
  intro v2 w3 hrow3 hgr3
  have Hrow := Lib.hid (show FRow w3 w.heap.size v2 [⟨2, 0, 1, []⟩] from hrow3)
  have Hb3 := Lib.hid (show Below w.heap.size w w3 from Below.trans (by first | exact Hbel2.out | go_grown) (hgr3.below (by first | exact Hs2.out | (simp; done) | (simp; omega)) (fun k hk => by simp [Value.ownBlock] at hk)))
  clear hrow3 hgr3
  go_wp2_with fail
  refine (Hw.out _ _ _ Hrow.out).mono ?_
  rintro e w4 ⟨rfl, hb4⟩
  go_wp2
  go_ret2
  exact DT.to HSE.out (Hb3.out.trans (hb4.mono Hb3.out.size))

set_option maxRecDepth 100000 in
set_option maxHeartbeats 4000000 in
theorem dm_not (s : ByteArray) (b : Bool) (n : Int) (f m1 m2 c1 c2 : Nat) (a1 a2 : Option Addr)  (w : World) :
    Calls Tryz.prog 21 #[.agg (gv 2 s false n f (.slice a1 m1 c1) (.slice a2 m2 c2))] w (DW (wrE [⟨2, 0, 0, []⟩]) w) := by
  obtain ⟨S, E, hSE⟩ := dtup_form (wrE [⟨2, 0, 0, []⟩])
  have hw : ∀ (W : World) (base : Nat) (v : Value), FRow W base v [⟨2, 0, 0, []⟩] → Calls Tryz.prog 56 #[v] W (DT S E W) := fun W base v h => (dwr_row h (one_fine ⟨_, _, _, _, (⟨rfl, by decide, by decide, by decide, by decide, by decide, by decide, by decide⟩ : Fit _ 2 0 0 [])⟩) (by simp)).mono fun _ _ => DT.of hSE
  have Hw := Lib.hid hw
  have HSE := Lib.hid hSE
  have Hcs := Lib.hid (show (fcells 2 0 0 [] : Array Value).toList = fc (⟨2, 0, 0, []⟩) from rfl)
  clear hSE hw
  go_enter Tryz.func21, Tryz.ntmps21
  go_wp2_with (at_builtin; refine wp_app_fd rfl _ _ rfl w.heap.size _ [] rfl (FRow.nil _ _) (⟨2, 0, 0, []⟩) (fcells 2 0 0 []) Hcs.out _ rfl (by simp) (by simp) (by first | exact Hs2.out | (simp; done) | (simp; omega)) ?_)
  intro v2 w3 hrow3 hgr3
  have Hrow := Lib.hid (show FRow w3 w.heap.size v2 [⟨2, 0, 0, []⟩] from hrow3)
  have Hb3 := Lib.hid (show Below w.heap.size w w3 from Below.trans (by first | exact Hbel2.out | go_grown) (hgr3.below (by first | exact Hs2.out | (simp; done) | (simp; omega)) (fun k hk => by simp [Value.ownBlock] at hk)))
  clear hrow3 hgr3
  go_wp2_with fail
  refine (Hw.out _ _ _ Hrow.out).mono ?_
  rintro e w4 ⟨rfl, hb4⟩
  go_wp2
  go_ret2
  exact DT.to HSE.out (Hb3.out.trans (hb4.mono Hb3.out.size))

set_option maxRecDepth 100000 in
set_option maxHeartbeats 4000000 in
theorem dm_int (s : ByteArray) (b : Bool) (n : Int) (f m1 m2 c1 c2 : Nat) (a1 a2 : Option Addr) (z : Int) (hz : IntKind.u64.wrap n = z) (hz0 : 0 ≤ z) (hz1 : z ≤ 18446744073709551615) (w : World) :
    Calls Tryz.prog 21 #[.agg (gv 3 s b n f (.slice a1 m1 c1) (.slice a2 m2 c2))] w (DW (wrE [⟨3, 0, z.toNat, []⟩]) w) := by
  obtain ⟨S, E, hSE⟩ := dtup_form (wrE [⟨3, 0, z.toNat, []⟩])
  have hw : ∀ (W : World) (base : Nat) (v : Value), FRow W base v [⟨3, 0, z.toNat, []⟩] → Calls Tryz.prog 56 #[v] W (DT S E W) := fun W base v h => (dwr_row h (one_fine ⟨_, _, _, _, (⟨rfl, by decide, by decide, hz0, hz1, by decide, by decide, by decide⟩ : Fit ⟨3, 0, z.toNat, []⟩ 3 0 z [])⟩) (by simp)).mono fun _ _ => DT.of hSE
  have Hw := Lib.hid hw
  have HSE := Lib.hid hSE
  have Hcs := Lib.hid (show (fcells 3 0 z [] : Array Value).toList = fc (⟨3, 0, z.toNat, []⟩) from fc_fit (⟨rfl, by decide, by decide, hz0, hz1, by decide, by decide, by decide⟩ : Fit ⟨3, 0, z.toNat, []⟩ 3 0 z []))
  clear hSE hw
  go_enter Tryz.func21, Tryz.ntmps21
  go_wp2_with (at_builtin; refine wp_app_fd rfl _ _ rfl w.heap.size _ [] rfl (FRow.nil _ _) (⟨3, 0, z.toNat, []⟩) (fcells 3 0 z []) Hcs.out _ rfl (by simp) (by simp) (by first | exact Hs2.out | (simp; done) | (simp; omega)) ?_)
  intro v2 w3 hrow3 hgr3
  have Hrow := Lib.hid (show FRow w3 w.heap.size v2 [⟨3, 0, z.toNat, []⟩] from hrow3)
  have Hb3 := Lib.hid (show Below w.heap.size w w3 from Below.trans (by first | exact Hbel2.out | go_grown) (hgr3.below (by first | exact Hs2.out | (simp; done) | (simp; omega)) (fun k hk => by simp [Value.ownBlock] at hk)))
  clear hrow3 hgr3
  go_wp2_with fail
  refine (Hw.out _ _ _ Hrow.out).mono ?_
  rintro e w4 ⟨rfl, hb4⟩
  go_wp2
  go_ret2
  exact DT.to HSE.out (Hb3.out.trans (hb4.mono Hb3.out.size))

set_option maxRecDepth 100000 in
set_option maxHeartbeats 4000000 in
theorem dm_float (s : ByteArray) (b : Bool) (n : Int) (f m1 m2 c1 c2 : Nat) (a1 a2 : Option Addr) (hf : f < 18446744073709551616) (w : World) :
    Calls Tryz.prog 21 #[.agg (gv 4 s b n f (.slice a1 m1 c1) (.slice a2 m2 c2))] w (DW (wrE [⟨4, 1, f, []⟩]) w) := by
  obtain ⟨S, E, hSE⟩ := dtup_form (wrE [⟨4, 1, f, []⟩])
  have hw : ∀ (W : World) (base : Nat) (v : Value), FRow W base v [⟨4, 1, f, []⟩] → Calls Tryz.prog 56 #[v] W (DT S E W) := fun W base v h => (dwr_row h (one_fine ⟨_, _, _, _, (⟨rfl, by decide, by decide, by omega, by omega, by decide, by decide, by decide⟩ : Fit ⟨4, 1, f, []⟩ 4 1 (f : Int) [])⟩) (by simp)).mono fun _ _ => DT.of hSE
  have Hw := Lib.hid hw
  have HSE := Lib.hid hSE
  have Hcs := Lib.hid (show (fcells 4 1 (f : Int) [] : Array Value).toList = fc (⟨4, 1, f, []⟩) from fc_fit (⟨rfl, by decide, by decide, by omega, by omega, by decide, by decide, by decide⟩ : Fit ⟨4, 1, f, []⟩ 4 1 (f : Int) []))
  clear hSE hw
  have h39 := Tryz.bits39
  go_enter Tryz.func21, Tryz.ntmps21
  go_wp2_with (at_builtin; refine wp_app_fd rfl _ _ rfl w.heap.size _ [] rfl (FRow.nil _ _) (⟨4, 1, f, []⟩) (fcells 4 1 (f : Int) []) Hcs.out _ rfl (by simp) (by simp) (by first | exact Hs2.out | (simp; done) | (simp; omega)) ?_)
  intro v2 w3 hrow3 hgr3
  have Hrow := Lib.hid (show FRow w3 w.heap.size v2 [⟨4, 1, f, []⟩] from hrow3)
  have Hb3 := Lib.hid (show Below w.heap.size w w3 from Below.trans (by first | exact Hbel2.out | go_grown) (hgr3.below (by first | exact Hs2.out | (simp; done) | (simp; omega)) (fun k hk => by simp [Value.ownBlock] at hk)))
  clear hrow3 hgr3
  go_wp2_with fail
  refine (Hw.out _ _ _ Hrow.out).mono ?_
  rintro e w4 ⟨rfl, hb4⟩
  go_wp2
  go_ret2
  exact DT.to HSE.out (Hb3.out.trans (hb4.mono Hb3.out.size))

set_option maxRecDepth 100000 in
set_option maxHeartbeats 4000000 in
theorem dm_none (s : ByteArray) (b : Bool) (n : Int) (f m1 m2 c1 c2 : Nat) (a1 a2 : Option Addr) (w : World) :
    Calls Tryz.prog 21 #[.agg (gv 0 s b n f (.slice a1 m1 c1) (.slice a2 m2 c2))] w (DW (.ok []) w) := by
  have Hw := Lib.hid (fun W => (rwrite_any W none 0 0 [] rfl ⟨by simp, fun h => absurd rfl h⟩).mono (R' := DT ⟨#[]⟩ 0 W) fun e w' h => ⟨h.1, h.2⟩)
  go_enter Tryz.func21, Tryz.ntmps21
  go_wp2_with fail
  refine (Hw.out _).mono ?_
  rintro e w4 ⟨rfl, hb4⟩
  go_wp2
  go_ret2
  exact ⟨rfl, (al w _).trans (hb4.mono (by simp))⟩
end Go.Proofs.YtnnnnlcpmocnfaaGreatDoor
