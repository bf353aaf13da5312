/- MESSAGES OF VALUES: the document's pair, its message at any right value, Write and WritePair, WALKED. -/
import Derived.Test.YtnnnnlcpmocnfaaGreatDoorDm2
import Derived.Test.YtnnnnlcpmocnfaaGreatDoorRk6
import Derived.Test.YtnnnnlcpmocnfaaGreatDoorWw4
import Derived.Outline
import Derived.WalkLawsBesides
namespace Go.Proofs.YtnnnnlcpmocnfaaGreatDoor
open Go.RowKit
set_option linter.unusedVariables false
set_option linter.unusedSimpArgs false
attribute [local go_sem] run_store_float


set_option maxRecDepth 100000 in
set_option maxHeartbeats 8000000 in
theorem dp_e0 (key : ByteArray) (x : V) (ih : DMsgC x) (hke : key.toList.isEmpty = true) (hk1 : key.size ≤ 140737488353000) (hk : (x.k == 0) = true) (t : List UInt8) (hm : wmsg x = .ok t) (w : World) (q1 q2 : Value) (hx : Rep Any w q1 q2 x) :
    Calls Tryz.prog 29 #[.agg (pv key x q1 q2)] w (DW (wpair key x) w) := by
  obtain ⟨adc, capc, rfl, _⟩ := hx.parts.2.1.form
  obtain ⟨add, capd, rfl, _⟩ := hx.parts.2.2.form
  have hkl : key.data.toList.length ≤ 9223372036854775807 := by have : key.data.toList.length = key.size := rfl; omega
  have htl : t.length ≤ 65536 := wmsg_short hm
  have hkf : keyf key = [] := by unfold keyf; rw [hke]; rfl
  have hR : wpair key x = wrE ([]) := by
    unfold wpair wpairE
    rw [if_pos (eq_of_beq hk), hkf]
  obtain ⟨S, E, hSE⟩ := dtup_form (wrE ([]))
  have hfine : ∀ f ∈ ([]), Fine f := by
    intro f hf
    have h1 := fine_bf 1 key.data.toList (by omega) hkl
    have h2 := fine_bf 2 t (by omega) (by omega)
    simp only [List.nil_append, List.cons_append, List.mem_cons, List.not_mem_nil, or_false] at hf
    
  have hlast : ∀ (W' : World) (base : Nat) (v : Value), FRow W' base v ([]) → Calls Tryz.prog 56 #[v] W' (DT S E W') := fun W' base v h => (dwr_row h hfine (by simp)).mono fun _ _ => DT.of hSE
  have Hlast := Lib.hid hlast
  have HSE := Lib.hid hSE
  obtain ⟨W, hW⟩ : ∃ W, W = (w.alloc (.cells (pv key x (.slice adc x.l.length capc) (.slice add x.p.length capd)) 29)) := ⟨_, rfl⟩
  have hb0 : Below w.heap.size w W := by rw [hW]; exact al w _
  have HA := Lib.hid (show At8 W w.heap.size 0 key x (.slice adc x.l.length capc) (.slice add x.p.length capd) from At8.box (t := 29) (by rw [hW]; exact blk_new w _))
  have Hlt := Lib.hid (show w.heap.size < W.heap.size by rw [hW]; simp)
  have HbelW := Lib.hid hb0
  have Hcall := Lib.hid ((ih W _ _ (hx.under hb0)).mono (R' := DT ⟨t.toArray⟩ 0 W) fun e w' h => DT.of (r := .ok t) rfl (by rw [hm] at h; exact h))
  have HW := Lib.hid hW
  have HR := Lib.hid hR
  clear hW hb0 hx hkf hk1 hR hkl htl hm hSE hlast hfine ih
  obtain ⟨a0, a1, a2, a3, a4, a5, a6, a7⟩ := HA.out
  simp only [Nat.zero_add] at a0 a1 a2 a3 a4 a5 a6 a7
  go_enter Tryz.func29, Tryz.ntmps29
  go_wp2_with fail
  rw [← HW.out]
  refine (Hcall.out).mono ?_
  rintro e w1 ⟨rfl, hb1⟩
  have Hb1 := Lib.hid hb1
  clear hb1 a0 a1 a2 a3 a4 a5 a6 a7
  obtain ⟨a0, a1, a2, a3, a4, a5, a6, a7⟩ := HA.out.keep (Hb1.out.block _ Hlt.out)
  simp only [Nat.zero_add] at a0 a1 a2 a3 a4 a5 a6 a7
  go_wp2_with fail
  refine (Hlast.out _ W.heap.size _ (FRow.nil _ _)).mono ?_
  rintro e w9 ⟨rfl, hb9⟩
  have Hb9 := Lib.hid (Hb1.out.trans (hb9.mono Hb1.out.size))
  clear hb9
  go_wp2
  go_ret2
  rw [HR.out]
  exact DT.to HSE.out (HbelW.out.trans (Hb9.out.mono HbelW.out.size))

set_option maxRecDepth 100000 in
set_option maxHeartbeats 8000000 in
theorem dp_k0 (key : ByteArray) (x : V) (ih : DMsgC x) (hke : key.toList.isEmpty = false) (hk1 : key.size ≤ 140737488353000) (hk : (x.k == 0) = true) (t : List UInt8) (hm : wmsg x = .ok t) (w : World) (q1 q2 : Value) (hx : Rep Any w q1 q2 x) :
    Calls Tryz.prog 29 #[.agg (pv key x q1 q2)] w (DW (wpair key x) w) := by
  obtain ⟨adc, capc, rfl, _⟩ := hx.parts.2.1.form
  obtain ⟨add, capd, rfl, _⟩ := hx.parts.2.2.form
  have hkl : key.data.toList.length ≤ 9223372036854775807 := by have : key.data.toList.length = key.size := rfl; omega
  have htl : t.length ≤ 65536 := wmsg_short hm
  have hkf : keyf key = [bf 1 key.data.toList] := by unfold keyf; rw [hke]; rfl
  have hR : wpair key x = wrE ([bf 1 key.data.toList]) := by
    unfold wpair wpairE
    rw [if_pos (eq_of_beq hk), hkf]
  obtain ⟨S, E, hSE⟩ := dtup_form (wrE ([bf 1 key.data.toList]))
  have hfine : ∀ f ∈ ([bf 1 key.data.toList]), Fine f := by
    intro f hf
    have h1 := fine_bf 1 key.data.toList (by omega) hkl
    have h2 := fine_bf 2 t (by omega) (by omega)
    simp only [List.nil_append, List.cons_append, List.mem_cons, List.not_mem_nil, or_false] at hf
    (subst hf; assumption)
  have hlast : ∀ (W' : World) (base : Nat) (v : Value), FRow W' base v ([bf 1 key.data.toList]) → Calls Tryz.prog 56 #[v] W' (DT S E W') := fun W' base v h => (dwr_row h hfine (by simp)).mono fun _ _ => DT.of hSE
  have Hlast := Lib.hid hlast
  have HSE := Lib.hid hSE
  obtain ⟨W, hW⟩ : ∃ W, W = (w.alloc (.cells (pv key x (.slice adc x.l.length capc) (.slice add x.p.length capd)) 29)) := ⟨_, rfl⟩
  have hb0 : Below w.heap.size w W := by rw [hW]; exact al w _
  have HA := Lib.hid (show At8 W w.heap.size 0 key x (.slice adc x.l.length capc) (.slice add x.p.length capd) from At8.box (t := 29) (by rw [hW]; exact blk_new w _))
  have Hlt := Lib.hid (show w.heap.size < W.heap.size by rw [hW]; simp)
  have HbelW := Lib.hid hb0
  have Hcall := Lib.hid ((ih W _ _ (hx.under hb0)).mono (R' := DT ⟨t.toArray⟩ 0 W) fun e w' h => DT.of (r := .ok t) rfl (by rw [hm] at h; exact h))
  have HW := Lib.hid hW
  have HR := Lib.hid hR
  clear hW hb0 hx hkf hk1 hR hkl htl hm hSE hlast hfine ih
  obtain ⟨a0, a1, a2, a3, a4, a5, a6, a7⟩ := HA.out
  simp only [Nat.zero_add] at a0 a1 a2 a3 a4 a5 a6 a7
  go_enter Tryz.func29, Tryz.ntmps29
  go_wp2_with fail
  rw [← HW.out]
  refine (Hcall.out).mono ?_
  rintro e w1 ⟨rfl, hb1⟩
  have Hb1 := Lib.hid hb1
  clear hb1 a0 a1 a2 a3 a4 a5 a6 a7
  obtain ⟨a0, a1, a2, a3, a4, a5, a6, a7⟩ := HA.out.keep (Hb1.out.block _ Hlt.out)
  simp only [Nat.zero_add] at a0 a1 a2 a3 a4 a5 a6 a7
  go_wp2_with fail
  refine (dbytes_any _ _ _).mono ?_
  rintro e w2 ⟨rfl, hb2⟩
  have Hb2 := Lib.hid (Hb1.out.trans (hb2.mono Hb1.out.size))
  clear hb2 a0 a1 a2 a3 a4 a5 a6 a7
  go_wp2_with (at_builtin; refine wp_app_fd rfl _ _ rfl W.heap.size _ [] rfl (FRow.nil _ _) (bf 1 key.data.toList) _ (cs_key 1 key) _ rfl (by simp) (by simp) Hb2.out.size ?_)
  intro v3 w3 hrow3 hgr3
  have Hrow3 := Lib.hid (show FRow w3 W.heap.size v3 [bf 1 key.data.toList] from hrow3)
  have Hb3 := Lib.hid (Hb2.out.trans (hgr3.below Hb2.out.size (fun j hj => by simp [Value.ownBlock] at hj)))
  clear hrow3 hgr3
  obtain ⟨a0, a1, a2, a3, a4, a5, a6, a7⟩ := HA.out.keep (Hb3.out.block _ Hlt.out)
  simp only [Nat.zero_add] at a0 a1 a2 a3 a4 a5 a6 a7
  go_wp2_with fail
  refine (Hlast.out _ W.heap.size _ Hrow3.out).mono ?_
  rintro e w9 ⟨rfl, hb9⟩
  have Hb9 := Lib.hid (Hb3.out.trans (hb9.mono Hb3.out.size))
  clear hb9
  go_wp2
  go_ret2
  rw [HR.out]
  exact DT.to HSE.out (HbelW.out.trans (Hb9.out.mono HbelW.out.size))

set_option maxRecDepth 100000 in
set_option maxHeartbeats 8000000 in
theorem dp_ev (key : ByteArray) (x : V) (ih : DMsgC x) (hke : key.toList.isEmpty = true) (hk1 : key.size ≤ 140737488353000) (hk : (x.k == 0) = false) (t : List UInt8) (hm : wmsg x = .ok t) (w : World) (q1 q2 : Value) (hx : Rep Any w q1 q2 x) :
    Calls Tryz.prog 29 #[.agg (pv key x q1 q2)] w (DW (wpair key x) w) := by
  obtain ⟨adc, capc, rfl, _⟩ := hx.parts.2.1.form
  obtain ⟨add, capd, rfl, _⟩ := hx.parts.2.2.form
  have hkl : key.data.toList.length ≤ 9223372036854775807 := by have : key.data.toList.length = key.size := rfl; omega
  have htl : t.length ≤ 65536 := wmsg_short hm
  have hkf : keyf key = [] := by unfold keyf; rw [hke]; rfl
  have hR : wpair key x = wrE ([] ++ [bf 2 t]) := by
    unfold wpair wpairE
    rw [if_neg (ne_of_beq_false hk), hm, hkf]
  obtain ⟨S, E, hSE⟩ := dtup_form (wrE ([] ++ [bf 2 t]))
  have hfine : ∀ f ∈ ([] ++ [bf 2 t]), Fine f := by
    intro f hf
    have h1 := fine_bf 1 key.data.toList (by omega) hkl
    have h2 := fine_bf 2 t (by omega) (by omega)
    simp only [List.nil_append, List.cons_append, List.mem_cons, List.not_mem_nil, or_false] at hf
    (subst hf; assumption)
  have hlast : ∀ (W' : World) (base : Nat) (v : Value), FRow W' base v ([] ++ [bf 2 t]) → Calls Tryz.prog 56 #[v] W' (DT S E W') := fun W' base v h => (dwr_row h hfine (by simp)).mono fun _ _ => DT.of hSE
  have Hlast := Lib.hid hlast
  have HSE := Lib.hid hSE
  obtain ⟨W, hW⟩ : ∃ W, W = (w.alloc (.cells (pv key x (.slice adc x.l.length capc) (.slice add x.p.length capd)) 29)) := ⟨_, rfl⟩
  have hb0 : Below w.heap.size w W := by rw [hW]; exact al w _
  have HA := Lib.hid (show At8 W w.heap.size 0 key x (.slice adc x.l.length capc) (.slice add x.p.length capd) from At8.box (t := 29) (by rw [hW]; exact blk_new w _))
  have Hlt := Lib.hid (show w.heap.size < W.heap.size by rw [hW]; simp)
  have HbelW := Lib.hid hb0
  have Hcall := Lib.hid ((ih W _ _ (hx.under hb0)).mono (R' := DT ⟨t.toArray⟩ 0 W) fun e w' h => DT.of (r := .ok t) rfl (by rw [hm] at h; exact h))
  have HW := Lib.hid hW
  have HR := Lib.hid hR
  clear hW hb0 hx hkf hk1 hR hkl htl hm hSE hlast hfine ih
  obtain ⟨a0, a1, a2, a3, a4, a5, a6, a7⟩ := HA.out
  simp only [Nat.zero_add] at a0 a1 a2 a3 a4 a5 a6 a7
  go_enter Tryz.func29, Tryz.ntmps29
  go_wp2_with fail
  rw [← HW.out]
  refine (Hcall.out).mono ?_
  rintro e w1 ⟨rfl, hb1⟩
  have Hb1 := Lib.hid hb1
  clear hb1 a0 a1 a2 a3 a4 a5 a6 a7
  obtain ⟨a0, a1, a2, a3, a4, a5, a6, a7⟩ := HA.out.keep (Hb1.out.block _ Hlt.out)
  simp only [Nat.zero_add] at a0 a1 a2 a3 a4 a5 a6 a7
  go_wp2_with fail
  refine (dbytes_any _ _ _).mono ?_
  rintro e w4 ⟨rfl, hb4⟩
  have Hbl := Lib.hid (show Below w1.heap.size w1 w4 from hb4)
  have Hb4 := Lib.hid (Hb1.out.trans (hb4.mono Hb1.out.size))
  clear hb4 a0 a1 a2 a3 a4 a5 a6 a7
  go_wp2_with (at_builtin; refine wp_app_fd rfl _ _ rfl W.heap.size _ [] rfl (FRow.nil _ _) (bf 2 t) _ (cs_bf 2 t) _ rfl (by simp) (by simp) Hb4.out.size ?_)
  intro v5 w5 hrow5 hgr5
  have Hrow5 := Lib.hid (show FRow w5 W.heap.size v5 ([] ++ [bf 2 t]) from hrow5)
  have Hb5 := Lib.hid (Hb4.out.trans (hgr5.below Hb4.out.size (fun j hj => by simp [Value.ownBlock] at hj)))
  clear hrow5 hgr5
  go_wp2_with fail
  refine (Hlast.out _ W.heap.size _ Hrow5.out).mono ?_
  rintro e w9 ⟨rfl, hb9⟩
  have Hb9 := Lib.hid (Hb5.out.trans (hb9.mono Hb5.out.size))
  clear hb9
  go_wp2
  go_ret2
  rw [HR.out]
  exact DT.to HSE.out (HbelW.out.trans (Hb9.out.mono HbelW.out.size))

set_option maxRecDepth 100000 in
set_option maxHeartbeats 8000000 in
theorem dp_kv (key : ByteArray) (x : V) (ih : DMsgC x) (hke : key.toList.isEmpty = false) (hk1 : key.size ≤ 140737488353000) (hk : (x.k == 0) = false) (t : List UInt8) (hm : wmsg x = .ok t) (w : World) (q1 q2 : Value) (hx : Rep Any w q1 q2 x) :
    Calls Tryz.prog 29 #[.agg (pv key x q1 q2)] w (DW (wpair key x) w) := by
  obtain ⟨adc, capc, rfl, _⟩ := hx.parts.2.1.form
  obtain ⟨add, capd, rfl, _⟩ := hx.parts.2.2.form
  have hkl : key.data.toList.length ≤ 9223372036854775807 := by have : key.data.toList.length = key.size := rfl; omega
  have htl : t.length ≤ 65536 := wmsg_short hm
  have hkf : keyf key = [bf 1 key.data.toList] := by unfold keyf; rw [hke]; rfl
  have hR : wpair key x = wrE ([bf 1 key.data.toList] ++ [bf 2 t]) := by
    unfold wpair wpairE
    rw [if_neg (ne_of_beq_false hk), hm, hkf]
  obtain ⟨S, E, hSE⟩ := dtup_form (wrE ([bf 1 key.data.toList] ++ [bf 2 t]))
  have hfine : ∀ f ∈ ([bf 1 key.data.toList] ++ [bf 2 t]), Fine f := by
    intro f hf
    have h1 := fine_bf 1 key.data.toList (by omega) hkl
    have h2 := fine_bf 2 t (by omega) (by omega)
    simp only [List.nil_append, List.cons_append, List.mem_cons, List.not_mem_nil, or_false] at hf
    (rcases hf with rfl | rfl <;> assumption)
  have hlast : ∀ (W' : World) (base : Nat) (v : Value), FRow W' base v ([bf 1 key.data.toList] ++ [bf 2 t]) → Calls Tryz.prog 56 #[v] W' (DT S E W') := fun W' base v h => (dwr_row h hfine (by simp)).mono fun _ _ => DT.of hSE
  have Hlast := Lib.hid hlast
  have HSE := Lib.hid hSE
  obtain ⟨W, hW⟩ : ∃ W, W = (w.alloc (.cells (pv key x (.slice adc x.l.length capc) (.slice add x.p.length capd)) 29)) := ⟨_, rfl⟩
  have hb0 : Below w.heap.size w W := by rw [hW]; exact al w _
  have HA := Lib.hid (show At8 W w.heap.size 0 key x (.slice adc x.l.length capc) (.slice add x.p.length capd) from At8.box (t := 29) (by rw [hW]; exact blk_new w _))
  have Hlt := Lib.hid (show w.heap.size < W.heap.size by rw [hW]; simp)
  have HbelW := Lib.hid hb0
  have Hcall := Lib.hid ((ih W _ _ (hx.under hb0)).mono (R' := DT ⟨t.toArray⟩ 0 W) fun e w' h => DT.of (r := .ok t) rfl (by rw [hm] at h; exact h))
  have HW := Lib.hid hW
  have HR := Lib.hid hR
  clear hW hb0 hx hkf hk1 hR hkl htl hm hSE hlast hfine ih
  obtain ⟨a0, a1, a2, a3, a4, a5, a6, a7⟩ := HA.out
  simp only [Nat.zero_add] at a0 a1 a2 a3 a4 a5 a6 a7
  go_enter Tryz.func29, Tryz.ntmps29
  go_wp2_with fail
  rw [← HW.out]
  refine (Hcall.out).mono ?_
  rintro e w1 ⟨rfl, hb1⟩
  have Hb1 := Lib.hid hb1
  clear hb1 a0 a1 a2 a3 a4 a5 a6 a7
  obtain ⟨a0, a1, a2, a3, a4, a5, a6, a7⟩ := HA.out.keep (Hb1.out.block _ Hlt.out)
  simp only [Nat.zero_add] at a0 a1 a2 a3 a4 a5 a6 a7
  go_wp2_with fail
  refine (dbytes_any _ _ _).mono ?_
  rintro e w2 ⟨rfl, hb2⟩
  have Hb2 := Lib.hid (Hb1.out.trans (hb2.mono Hb1.out.size))
  clear hb2 a0 a1 a2 a3 a4 a5 a6 a7
  go_wp2_with (at_builtin; refine wp_app_fd rfl _ _ rfl W.heap.size _ [] rfl (FRow.nil _ _) (bf 1 key.data.toList) _ (cs_key 1 key) _ rfl (by simp) (by simp) Hb2.out.size ?_)
  intro v3 w3 hrow3 hgr3
  have Hrow3 := Lib.hid (show FRow w3 W.heap.size v3 [bf 1 key.data.toList] from hrow3)
  have Hb3 := Lib.hid (Hb2.out.trans (hgr3.below Hb2.out.size (fun j hj => by simp [Value.ownBlock] at hj)))
  clear hrow3 hgr3
  obtain ⟨a0, a1, a2, a3, a4, a5, a6, a7⟩ := HA.out.keep (Hb3.out.block _ Hlt.out)
  simp only [Nat.zero_add] at a0 a1 a2 a3 a4 a5 a6 a7
  go_wp2_with fail
  refine (dbytes_any _ _ _).mono ?_
  rintro e w4 ⟨rfl, hb4⟩
  have Hbl := Lib.hid (show Below w3.heap.size w3 w4 from hb4)
  have Hb4 := Lib.hid (Hb3.out.trans (hb4.mono Hb3.out.size))
  clear hb4 a0 a1 a2 a3 a4 a5 a6 a7
  go_wp2_with (at_builtin; refine wp_app_fd rfl _ _ rfl W.heap.size _ [bf 1 key.data.toList] rfl (Hrow3.out.later (Hbl.out)) (bf 2 t) _ (cs_bf 2 t) _ rfl (by simp) (by simp) Hb4.out.size ?_)
  intro v5 w5 hrow5 hgr5
  have Hrow5 := Lib.hid (show FRow w5 W.heap.size v5 ([bf 1 key.data.toList] ++ [bf 2 t]) from hrow5)
  have Hb5 := Lib.hid (Hb4.out.trans (hgr5.below Hb4.out.size (fun j hj => (Hrow3.out.lt j hj).1)))
  clear hrow5 hgr5
  go_wp2_with fail
  refine (Hlast.out _ W.heap.size _ Hrow5.out).mono ?_
  rintro e w9 ⟨rfl, hb9⟩
  have Hb9 := Lib.hid (Hb5.out.trans (hb9.mono Hb5.out.size))
  clear hb9
  go_wp2
  go_ret2
  rw [HR.out]
  exact DT.to HSE.out (HbelW.out.trans (Hb9.out.mono HbelW.out.size))

set_option maxRecDepth 100000 in
set_option maxHeartbeats 8000000 in
theorem dp_err (key : ByteArray) (x : V) (ih : DMsgC x) (c : Nat) (hm : wmsg x = .error c) (w : World) (q1 q2 : Value) (hx : Rep Any w q1 q2 x) :
    Calls Tryz.prog 29 #[.agg (pv key x q1 q2)] w (DW (wpair key x) w) := by
  obtain ⟨adc, capc, rfl, _⟩ := hx.parts.2.1.form
  obtain ⟨add, capd, rfl, _⟩ := hx.parts.2.2.form
  have hc := wmsg_err hm
  obtain ⟨hc1, hc2⟩ := errs_ne hc
  have hk : ¬ x.k = 0 := fun h => by
    rw [wmsg_eq] at hm
    simp [h] at hm
  have hR : wpair key x = .error c := by
    unfold wpair wpairE
    rw [if_neg hk, hm]
  obtain ⟨W, hW⟩ : ∃ W, W = (w.alloc (.cells (pv key x (.slice adc x.l.length capc) (.slice add x.p.length capd)) 29)) := ⟨_, rfl⟩
  have hb0 : Below w.heap.size w W := by rw [hW]; exact al w _
  have HA := Lib.hid (show At8 W w.heap.size 0 key x (.slice adc x.l.length capc) (.slice add x.p.length capd) from At8.box (t := 29) (by rw [hW]; exact blk_new w _))
  have HbelW := Lib.hid hb0
  have Hcall := Lib.hid ((ih W _ _ (hx.under hb0)).mono (R' := DT ⟨#[]⟩ (c : Int) W) fun e w' h => DT.of (r := .error c) rfl (by rw [hm] at h; exact h))
  have HW := Lib.hid hW
  have HR := Lib.hid hR
  clear hW hb0 hx hk hR hm ih
  obtain ⟨a0, a1, a2, a3, a4, a5, a6, a7⟩ := HA.out
  simp only [Nat.zero_add] at a0 a1 a2 a3 a4 a5 a6 a7
  go_enter Tryz.func29, Tryz.ntmps29
  go_wp2_with fail
  rw [← HW.out]
  refine (Hcall.out).mono ?_
  rintro e w1 ⟨rfl, hb1⟩
  have Hb1 := Lib.hid hb1
  clear hb1 a0 a1 a2 a3 a4 a5 a6 a7
  go_wp2
  go_ret2
  exact ⟨by rw [HR.out]; rfl, HbelW.out.trans (Hb1.out.mono HbelW.out.size)⟩

theorem dpair_of (key : ByteArray) (x : V) (ih : DMsgC x) (hk1 : key.size ≤ 140737488353000) : DPairC key x := by
  intro w q1 q2 hx
  cases hm : wmsg x with
  | error c => exact dp_err key x ih c hm w q1 q2 hx
  | ok t =>
    cases he : key.toList.isEmpty <;> by_cases h0 : x.k = 0
    · exact dp_k0 key x ih he hk1 (by simp [h0]) t hm w q1 q2 hx
    · exact dp_kv key x ih he hk1 (by simp [h0]) t hm w q1 q2 hx
    · exact dp_e0 key x ih he hk1 (by simp [h0]) t hm w q1 q2 hx
    · exact dp_ev key x ih he hk1 (by simp [h0]) t hm w q1 q2 hx

theorem dmsg_step (x : V) (d : Int) (hx : chk x d = 0) (ihl : ∀ a, a ∈ x.l → DMsgC a) (ihp : ∀ e, e ∈ x.p → DPairC e.1 e.2) : DMsgC x := by
  intro w q1 q2 hrep
  have hR := right_is hx
  have hfit := hrep.parts.1
  obtain ⟨a1, c1, rfl, _⟩ := hrep.parts.2.1.form
  obtain ⟨a2, c2, rfl, _⟩ := hrep.parts.2.2.form
  have hbare := hR.bare
  unfold bareB at hbare
  simp only [Bool.and_eq_true, Bool.or_eq_true, decide_eq_true_eq, beq_iff_eq, List.isEmpty_iff] at hbare
  obtain ⟨⟨⟨⟨⟨⟨hk8, _⟩, _⟩, _⟩, _⟩, hl5⟩, hp6⟩ := hbare
  have hk0 := hfit.k0
  have hw := wrap64 x.n
  have hsl := hR.s
  rw [wmsg_eq]
  show Calls Tryz.prog 21 #[.agg (gv x.k x.s x.b x.n x.f _ _)] w _
  by_cases k1 : x.k = 1
  · rw [if_pos k1, k1]
    exact dm_text x.s x.b x.n x.f x.l.length x.p.length c1 c2 a1 a2 hsl w
  rw [if_neg k1]
  by_cases k2 : x.k = 2
  · rw [if_pos k2, k2]
    cases hb : x.b
    · exact dm_not x.s x.b x.n x.f x.l.length x.p.length c1 c2 a1 a2 w
    · exact dm_yes x.s x.b x.n x.f x.l.length x.p.length c1 c2 a1 a2 w
  rw [if_neg k2]
  by_cases k3 : x.k = 3
  · rw [if_pos k3, k3]
    exact dm_int x.s x.b x.n x.f x.l.length x.p.length c1 c2 a1 a2 _ rfl hw.1 hw.2 w
  rw [if_neg k3]
  by_cases k4 : x.k = 4
  · rw [if_pos k4, k4]
    exact dm_float x.s x.b x.n x.f x.l.length x.p.length c1 c2 a1 a2 hfit.f1 w
  rw [if_neg k4]
  by_cases k5 : x.k = 5
  · have hp0 : x.p.length = 0 := by rcases hp6 with h | h; (omega); (rw [h]; rfl)
    rw [if_pos k5, k5, hp0]
    exact dm_list x.s x.b x.n x.f x.l a1 a2 c1 c2 hR.l w hrep.parts.2.1 ihl
  rw [if_neg k5]
  by_cases k6 : x.k = 6
  · have hl0 : x.l.length = 0 := by rcases hl5 with h | h; (omega); (rw [h]; rfl)
    rw [if_pos k6, k6, hl0]
    exact dm_map x.s x.b x.n x.f x.p a1 a2 c1 c2 hR.p w hrep.parts.2.2 ihp
  rw [if_neg k6]
  by_cases k7 : x.k = 7
  · rw [if_pos k7, k7]
    exact dm_bytes x.s x.b x.n x.f x.l.length x.p.length c1 c2 a1 a2 hsl w
  rw [if_neg k7]
  have kz : x.k = 0 := by omega
  rw [kz]
  exact dm_none x.s x.b x.n x.f x.l.length x.p.length c1 c2 a1 a2 w
theorem dmsg_sized : ∀ (n : Nat) (x : V), SizeOf.sizeOf x ≤ n → Right x → DMsgC x := by
  intro n
  induction n with
  | zero => intro x hx; cases x; simp only [V.mk.sizeOf_spec] at hx; omega
  | succ n ih =>
    rintro x hx ⟨d, hd⟩
    have hR := right_is hd
    exact dmsg_step x d hd (fun a ha => ih a (by have := V.size_l ha; omega) ⟨_, chkL_all hR.rl a ha⟩) (fun e he => by
      obtain ⟨h1, h2⟩ := chkP_all hR.rp e he
      exact dpair_of e.1 e.2 (ih e.2 (by have := V.size_p he; omega) ⟨_, h2⟩) (by have := keyErr_size h1; omega))
theorem dmsg_any {x : V} (h : Right x) : DMsgC x := dmsg_sized _ x (Nat.le_refl _) h
theorem dpair_any {key : ByteArray} {x : V} (h : Right x) (hk : key.size ≤ 140737488353000) : DPairC key x := dpair_of key x (dmsg_any h) hk
end Go.Proofs.YtnnnnlcpmocnfaaGreatDoor

/- MESSAGES OF VALUES: the document's Write and WritePair, WALKED. -/
namespace Go.Proofs.YtnnnnlcpmocnfaaGreatDoor
open Go.RowKit
set_option linter.unusedVariables false
set_option linter.unusedSimpArgs false
attribute [local go_sem] run_store_float

theorem repP_one {W : World} {g : Nat} {key : ByteArray} {x : V} {q1 q2 : Value} (hA : At8 W g 0 key x q1 q2) (hg : g < W.heap.size) (hk : key.size ≤ 140737488353000) (hr : Rep Any W q1 q2 x) : RepP Any W (.slice (some ⟨g, 0, none⟩) 1 1) [(key, x)] :=
  ⟨g, 0, fun _ => q1, fun _ => q2, ⟨some ⟨g, 0, none⟩, 1, rfl, by simp, fun _ => ⟨rfl, trivial, hg⟩⟩, fun i y h => by
    cases i with
    | zero => simp at h; subst h; exact ⟨by simpa using hA, hk, hr⟩
    | succ i => simp at h⟩
theorem pairsErr_one (key : ByteArray) (x : V) : pairsErr [(key, x)] 0 = pairErr key x 0 := by
  have h1 : chkP [(key, x)] 0 = pairErr key x 0 := by
    rw [chkP]
    unfold pairErr
    by_cases h : keyErr key = 0
    · rw [if_pos h, if_pos h]
      by_cases h2 : chk x 0 = 0
      · rw [if_pos h2, chkP, h2]
      · rw [if_neg h2]
    · rw [if_neg h, if_neg h]
  unfold pairsErr
  rw [if_neg (by simp), h1]
  by_cases h : pairErr key x 0 = 0
  · rw [if_pos h, h]; exact onceErr_ok (by simp)
  · rw [if_neg h]
theorem wtup_d (r : Res) : wtup (match r with | .ok t => .ok t | .error c => .error (c : Int)) = dtup r := by cases r <;> rfl
theorem ne_facts {c : Int} (h : ¬ c = 0) : (c == 0) = false ∧ (c != 0) = true := ⟨by simpa using h, by simpa using h⟩

set_option maxRecDepth 100000 in
set_option maxHeartbeats 4000000 in
theorem rwrt_any (x : V) (w : World) (q1 q2 : Value) (hx : Rep Any w q1 q2 x) : Calls Tryz.prog 6 #[.agg (cv x q1 q2)] w (WroteBoth (writeR x) w) := by
  obtain ⟨a1, c1, rfl, _⟩ := hx.parts.2.1.form
  obtain ⟨a2, c2, rfl, _⟩ := hx.parts.2.2.form
  obtain ⟨W0, hW0⟩ : ∃ W0, W0 = w.alloc (.cells (cv x (.slice a1 x.l.length c1) (.slice a2 x.p.length c2)) 27) := ⟨_, rfl⟩
  have hb0 : Below w.heap.size w W0 := by rw [hW0]; exact al w _
  have Hc := Lib.hid (rcheck_any x W0 _ _ (hx.under hb0))
  have Bx0 := Lib.hid (show Box W0 w.heap.size x _ _ by rw [hW0]; exact Box.new w x (.slice a1 x.l.length c1) (.slice a2 x.p.length c2))
  have HW0 := Lib.hid hW0
  have Hb0 := Lib.hid hb0
  have Hx0 := Lib.hid (hx.under hb0)
  clear hW0 hb0 hx
  obtain ⟨k0, k1, k2, k3, k4, k5, k6⟩ := Bx0.out.at
  by_cases h0 : chk x 0 = 0
  · have HR := Lib.hid (show wtup (writeR x) = dtup (wmsg x) by unfold writeR; rw [if_pos h0]; cases wmsg x <;> rfl)
    obtain ⟨S, E, hSE⟩ := dtup_form (wmsg x)
    have HSE := Lib.hid hSE
    have Hm := Lib.hid (fun (W : World) (hr : Rep Any W (.slice a1 x.l.length c1) (.slice a2 x.p.length c2) x) => ((dmsg_any ⟨0, h0⟩ : DMsgC x) W _ _ hr).mono (R' := DT S E W) fun _ _ => DT.of hSE)
    rw [h0] at Hc
    clear h0 hSE
    go_enter Tryz.func6, Tryz.ntmps6
    go_wp2_with fail
    rw [← HW0.out]
    refine (Hc.out).mono ?_
    rintro e w1 ⟨rfl, hb1⟩
    have Hb1 := Lib.hid hb1
    clear hb1 k0 k1 k2 k3 k4 k5 k6
    obtain ⟨k0, k1, k2, k3, k4, k5, k6⟩ := (Bx0.out.under Hb1.out).at
    go_wp2_with fail
    refine (Hm.out _ (Hx0.out.under Hb1.out)).mono ?_
    rintro e w2 ⟨rfl, hb2⟩
    have Hb2 := Lib.hid (Hb1.out.trans (hb2.mono Hb1.out.size))
    clear hb2
    go_wp2
    go_ret2
    exact ⟨(congrArg Ending.returned (HR.out.trans HSE.out)).symm, Hb0.out.trans (Hb2.out.mono Hb0.out.size)⟩
  · have HR := Lib.hid (show writeR x = .error (chk x 0) by unfold writeR; rw [if_neg h0])
    generalize chk x 0 = c at h0 HR Hc
    obtain ⟨hc1, hc2⟩ := ne_facts h0
    clear h0
    go_enter Tryz.func6, Tryz.ntmps6
    go_wp2_with fail
    rw [← HW0.out]
    refine (Hc.out).mono ?_
    rintro e w1 ⟨rfl, hb1⟩
    have Hb1 := Lib.hid hb1
    clear hb1 k0 k1 k2 k3 k4 k5 k6
    go_wp2
    go_ret2
    exact ⟨by rw [HR.out]; rfl, Hb0.out.trans (Hb1.out.mono Hb0.out.size)⟩

set_option maxRecDepth 100000 in
set_option maxHeartbeats 4000000 in
theorem rwrtp_any (key : ByteArray) (hk : key.size ≤ 140737488353000) (x : V) (w : World) (q1 q2 : Value) (hx : Rep Any w q1 q2 x) : Calls Tryz.prog 10 #[.agg (pv key x q1 q2)] w (WroteBoth (writePR key x) w) := by
  obtain ⟨a1, c1, rfl, _⟩ := hx.parts.2.1.form
  obtain ⟨a2, c2, rfl, _⟩ := hx.parts.2.2.form
  obtain ⟨W0, hW0⟩ : ∃ W0, W0 = w.alloc (.cells (pv key x (.slice a1 x.l.length c1) (.slice a2 x.p.length c2)) 29) := ⟨_, rfl⟩
  have hb0 : Below w.heap.size w W0 := by rw [hW0]; exact al w _
  obtain ⟨X, hX⟩ : ∃ X, X = W0.alloc (.cells (pv key x (.slice a1 x.l.length c1) (.slice a2 x.p.length c2)) 29) := ⟨_, rfl⟩
  have hbX : Below W0.heap.size W0 X := by rw [hX]; exact al _ _
  have hAX : At8 X W0.heap.size 0 key x (.slice a1 x.l.length c1) (.slice a2 x.p.length c2) := At8.box (t := 29) (by rw [hX]; exact blk_new W0 _)
  have Hc := Lib.hid (rcheckp_any [(key, x)] X _ (repP_one hAX (by rw [hX]; simp) hk ((hx.under hb0).under hbX)) (by simp))
  rw [pairsErr_one] at Hc
  have HA := Lib.hid (show At8 W0 w.heap.size 0 key x (.slice a1 x.l.length c1) (.slice a2 x.p.length c2) from At8.box (t := 29) (by rw [hW0]; exact blk_new w _))
  have Hlt := Lib.hid (show w.heap.size < W0.heap.size by rw [hW0]; simp)
  have HX := Lib.hid (show X = (w.alloc (.cells (pv key x (.slice a1 x.l.length c1) (.slice a2 x.p.length c2)) 29)).alloc (.cells (pv key x (.slice a1 x.l.length c1) (.slice a2 x.p.length c2)) 29) by rw [hX, hW0])
  have Hs0 := Lib.hid (show W0.heap.size = w.heap.size + 1 by rw [hW0]; simp)
  have HW0 := Lib.hid hW0
  have Hb0 := Lib.hid hb0
  have HbX := Lib.hid hbX
  have Hx0 := Lib.hid (hx.under hb0)
  rw [Hs0.out] at Hc
  clear hW0 hb0 hx hX hbX hAX
  obtain ⟨k0, k1, k2, k3, k4, k5, k6, k7⟩ := HA.out
  simp only [Nat.zero_add] at k0 k1 k2 k3 k4 k5 k6 k7
  by_cases h0 : pairErr key x 0 = 0
  · have hk0 : keyErr key = 0 ∧ chk x 0 = 0 := by
      unfold pairErr at h0
      by_cases h : keyErr key = 0
      · rw [if_pos h] at h0; exact ⟨h, h0⟩
      · rw [if_neg h] at h0; exact absurd h0 h
    have HR := Lib.hid (show wtup (writePR key x) = dtup (wpair key x) by unfold writePR; rw [if_pos h0]; cases wpair key x <;> rfl)
    obtain ⟨S, E, hSE⟩ := dtup_form (wpair key x)
    have HSE := Lib.hid hSE
    have Hm := Lib.hid (fun (W : World) (hr : Rep Any W (.slice a1 x.l.length c1) (.slice a2 x.p.length c2) x) => ((dpair_any ⟨0, hk0.2⟩ hk : DPairC key x) W _ _ hr).mono (R' := DT S E W) fun _ _ => DT.of hSE)
    rw [h0] at Hc
    clear h0 hSE hk0
    go_enter Tryz.func10, Tryz.ntmps10
    go_wp2_with fail
    rw [← HX.out]
    refine (Hc.out).mono ?_
    rintro e w1 ⟨rfl, hb1⟩
    have Hb1 := Lib.hid (HbX.out.trans (hb1.mono HbX.out.size))
    clear hb1 k0 k1 k2 k3 k4 k5 k6 k7
    obtain ⟨k0, k1, k2, k3, k4, k5, k6, k7⟩ := HA.out.keep (Hb1.out.block _ Hlt.out)
    simp only [Nat.zero_add] at k0 k1 k2 k3 k4 k5 k6 k7
    go_wp2_with fail
    refine (Hm.out _ (Hx0.out.under Hb1.out)).mono ?_
    rintro e w2 ⟨rfl, hb2⟩
    have Hb2 := Lib.hid (Hb1.out.trans (hb2.mono Hb1.out.size))
    clear hb2
    go_wp2
    go_ret2
    exact ⟨(congrArg Ending.returned (HR.out.trans HSE.out)).symm, Hb0.out.trans (Hb2.out.mono Hb0.out.size)⟩
  · have HR := Lib.hid (show writePR key x = .error (pairErr key x 0) by unfold writePR; rw [if_neg h0])
    generalize pairErr key x 0 = c at h0 HR Hc
    obtain ⟨hc1, hc2⟩ := ne_facts h0
    clear h0
    go_enter Tryz.func10, Tryz.ntmps10
    go_wp2_with fail
    rw [← HX.out]
    refine (Hc.out).mono ?_
    rintro e w1 ⟨rfl, hb1⟩
    have Hb1 := Lib.hid (HbX.out.trans (hb1.mono HbX.out.size))
    clear hb1 k0 k1 k2 k3 k4 k5 k6 k7
    go_wp2
    go_ret2
    exact ⟨by rw [HR.out]; rfl, Hb0.out.trans (Hb1.out.mono Hb0.out.size)⟩
end Go.Proofs.YtnnnnlcpmocnfaaGreatDoor
