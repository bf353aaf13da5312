/- MESSAGES OF VALUES: parts of a list and of a map, WALKED. -/
import Derived.Test.YtnnnnlcpmocnfaaGreatDoorWw1
import Derived.Test.YtnnnnlcpmocnfaaGreatDoorLaw0
import Derived.Outline
import Derived.WalkLawsBesides
import Derived.Deep.RegionLaw
import Derived.Deep.RegionHeld3
namespace Go.Proofs.YtnnnnlcpmocnfaaGreatDoor
open Go.RowKit
set_option linter.unusedVariables false
set_option linter.unusedSimpArgs false
attribute [local go_sem] run_store_float

/-- a value is written as the model says -/
def WrittenC (x : V) : Prop := ∀ (w : World) (q1 q2 : Value), Rep Any w q1 q2 x → Calls Tryz.prog 19 #[.agg (cv x q1 q2)] w (Wrote (wmsg x) w)
def WPairC (key : ByteArray) (x : V) : Prop := ∀ (w : World) (q1 q2 : Value), Rep Any w q1 q2 x → Calls Tryz.prog 27 #[.agg (pv key x q1 q2)] w (Wrote (wpair key x) w)
theorem enc1_len {f : M.Fd} (h : M.may f = true) : (M.enc1 f).length = M.size1 f := by unfold M.size1; rw [if_pos h]
theorem wrE_short {fs : List M.Fd} {t : List UInt8} (h : wrE fs = .ok t) : t.length ≤ 65536 := by
  rcases wrE_cases fs with ⟨e, _, _, h2⟩ | ⟨_, h2, _, _, h3⟩
  · rw [h2] at h; cases h
  · rw [h2] at h; injection h with h; subst h; exact h3
theorem around_short {n : Int} {r : Res} {t : List UInt8} (h : around n r = .ok t) : t.length ≤ 65536 := by
  cases r with
  | error e => cases h
  | ok s => exact wrE_short (fs := [bf n s]) h
theorem wpair_short {key : ByteArray} {x : V} {t : List UInt8} (h : wpair key x = .ok t) : t.length ≤ 65536 := by
  unfold wpair wpairE at h
  split at h
  · exact wrE_short h
  · cases hm : wmsg x with
    | error e => rw [hm] at h; cases h
    | ok s => rw [hm] at h; exact wrE_short h
theorem wmsg_short {x : V} {t : List UInt8} (h : wmsg x = .ok t) : t.length ≤ 65536 := by
  rw [wmsg_eq] at h
  repeat' split at h
  all_goals first | exact wrE_short h | exact around_short h | (injection h with h; subst h; simp)
theorem short_wL (l : List V) : Short (l.map wmsg) := by
  intro t ht
  obtain ⟨x, _, hx⟩ := List.mem_map.1 ht
  exact wmsg_short hx
theorem short_wP (l : List (ByteArray × V)) : Short (l.map fun e => wpair e.1 e.2) := by
  intro t ht
  obtain ⟨x, _, hx⟩ := List.mem_map.1 ht
  exact wpair_short hx
set_option maxRecDepth 100000 in
set_option maxHeartbeats 4000000 in
/-- the closure that writes a list's part -/
theorem clo_list (x y : V) (k g : Nat) (ih : WrittenC y) (w : World) (q1 q2 : Value) (hA : At7 w g 0 x q1 q2) (hx : Rep Any w q1 q2 x) (hk : x.l[k]? = some y) :
    Calls Tryz.prog 51 #[.int .i64 (k : Int), .pointer (some ⟨g, 0, none⟩)] w (Wrote (wmsg y) w) := by
  obtain ⟨ad, cap, rfl, hln⟩ := hx.parts.2.1.form
  obtain ⟨g', o, c, d, rfl, hg', ⟨c0, c1, c2, c3, c4, c5, c6⟩, hrep⟩ := hx.parts.2.1.at hk
  obtain ⟨adc, capc, rfl, _⟩ := hrep.parts.2.1.form
  obtain ⟨add, capd, rfl, _⟩ := hrep.parts.2.2.form
  have hlt : k < x.l.length := lt_of_get hk
  have hk0 : (0 : Int) ≤ (k : Int) := by omega
  have hkn : (k : Int) < (x.l.length : Int) := by omega
  have hq := hA.c5
  simp only [Nat.zero_add] at hq
  have Hcall := Lib.hid (ih w _ _ hrep)
  clear hA hx hk hrep ih hlt hln
  generalize x.l.length = n at *
  generalize wmsg y = R at *
  cases R with
  | error c =>
    go_enter Tryz.func51, Tryz.ntmps51
    go_wp2_with fail
    refine (Hcall.out).mono ?_
    intro e w2 hc
    obtain ⟨rfl, hb2⟩ := hc.no
    exact ⟨rfl, by exact Wrote.mkn hb2⟩
  | ok t =>
    go_enter Tryz.func51, Tryz.ntmps51
    go_wp2_with fail
    refine (Hcall.out).mono ?_
    intro e w2 hc
    obtain ⟨rfl, hb2⟩ := hc.ok
    go_wp2
    go_ret
    exact Wrote.mk0 hb2
set_option maxRecDepth 100000 in
set_option maxHeartbeats 4000000 in
/-- the closure that writes a map's part -/
theorem clo_pairs (x : V) (y : ByteArray × V) (k g : Nat) (ih : WPairC y.1 y.2) (w : World) (q1 q2 : Value) (hA : At7 w g 0 x q1 q2) (hx : Rep Any w q1 q2 x) (hk : x.p[k]? = some y) :
    Calls Tryz.prog 52 #[.int .i64 (k : Int), .pointer (some ⟨g, 0, none⟩)] w (Wrote (wpair y.1 y.2) w) := by
  obtain ⟨ad, cap, rfl, hln⟩ := hx.parts.2.2.form
  obtain ⟨g', o, c, d, rfl, hg', ⟨c0, c1, c2, c3, c4, c5, c6, c7⟩, hky, hrep⟩ := hx.parts.2.2.at hk
  obtain ⟨adc, capc, rfl, _⟩ := hrep.parts.2.1.form
  obtain ⟨add, capd, rfl, _⟩ := hrep.parts.2.2.form
  have hlt : k < x.p.length := lt_of_get hk
  have hk0 : (0 : Int) ≤ (k : Int) := by omega
  have hkn : (k : Int) < (x.p.length : Int) := by omega
  have hq := hA.c6
  simp only [Nat.zero_add] at hq
  have Hcall := Lib.hid (ih w _ _ hrep)
  clear hA hx hk hrep ih hlt hln hky
  generalize x.p.length = n at *
  generalize wpair y.1 y.2 = R at *
  cases R with
  | error c =>
    go_enter Tryz.func52, Tryz.ntmps52
    go_wp2_with fail
    refine (Hcall.out).mono ?_
    intro e w2 hc
    obtain ⟨rfl, hb2⟩ := hc.no
    exact ⟨rfl, by exact Wrote.mkn hb2⟩
  | ok t =>
    go_enter Tryz.func52, Tryz.ntmps52
    go_wp2_with fail
    refine (Hcall.out).mono ?_
    intro e w2 hc
    obtain ⟨rfl, hb2⟩ := hc.ok
    go_wp2
    go_ret
    exact Wrote.mk0 hb2

theorem ne_of_beq_false {a b : Int} (h : (a == b) = false) : ¬ a = b := by simpa using h
end Go.Proofs.YtnnnnlcpmocnfaaGreatDoor

/- MESSAGES OF VALUES: a pair, WALKED. -/
namespace Go.Proofs.YtnnnnlcpmocnfaaGreatDoor
open Go.RowKit
set_option linter.unusedVariables false
set_option linter.unusedSimpArgs false
attribute [local go_sem] run_store_float

theorem cs_key (n : Int) (key : ByteArray) : (#[.int .i64 n, .int .u8 2, .int .u64 0, .string key] : Array Value).toList = fc (bf n key.data.toList) := by
  cases key with
  | mk d => cases d; rfl
/-- the row is not the box -/
theorem own_ne {w : World} {base g : Nat} {v : Value} {fs : List M.Fd} (h : FRow w base v fs) (hg : g < base) : ∀ k, v.ownBlock = some k → k ≠ g := fun k hk e => by have := (h.lt k hk).1; omega

set_option maxRecDepth 100000 in
set_option maxHeartbeats 8000000 in
theorem wp_e0 (key : ByteArray) (x : V)  (hke : key.toList.isEmpty = true) (hk1 : key.size ≤ 140737488353000) (hk : (x.k == 0) = true) (w : World) (q1 q2 : Value) (hx : Rep Any w q1 q2 x) :
    Calls Tryz.prog 27 #[.agg (pv key x q1 q2)] w (Wrote (wpair key x) w) := by
  obtain ⟨adc, capc, rfl, _⟩ := hx.parts.2.1.form
  obtain ⟨add, capd, rfl, _⟩ := hx.parts.2.2.form
  have hkl : key.data.toList.length ≤ 9223372036854775807 := by have : key.data.toList.length = key.size := rfl; omega
  have hkf : keyf key = [] := by unfold keyf; rw [hke]; rfl
  have hR : wpair key x = wrE [] := by
    unfold wpair wpairE
    rw [if_pos (eq_of_beq hk), hkf]
  obtain ⟨W, hW⟩ : ∃ W, W = (w.alloc (.cells (pv key x (.slice adc x.l.length capc) (.slice add x.p.length capd)) 29)) := ⟨_, rfl⟩
  have hb0 : Below w.heap.size w W := by rw [hW]; exact al w _
  have HBW := Lib.hid (show W.heap[w.heap.size]? = some (.cells (pv key x (.slice adc x.l.length capc) (.slice add x.p.length capd)) 29 (0, 0)) by rw [hW]; exact blk_new w _)
  have HbelW := Lib.hid hb0
  have HrowW := Lib.hid (FRow.nil W w.heap.size)
  have HneW := Lib.hid (show ∀ k, (Value.slice none 0 0).ownBlock = some k → k ≠ w.heap.size from fun k hk => by simp [Value.ownBlock] at hk)
  have Hrep := Lib.hid (hx.under hb0)
  have HW := Lib.hid hW
  have Hkl := Lib.hid hkl
  have HR := Lib.hid hR
  clear hW hb0 hx hkf hk1 hR hkl 
  obtain ⟨a0, a1, a2, a3, a4, a5, a6, a7⟩ := At8.box HBW.out
  simp only [Nat.zero_add] at a0 a1 a2 a3 a4 a5 a6 a7
  go_enter Tryz.func27, Tryz.ntmps27
  have hnil : wrE [] = .ok [] := rfl
  have Hmsg := Lib.hid (message_any W none 0 0 [] rfl ⟨by simp, fun h => absurd rfl h⟩)
  rw [hnil] at Hmsg
  have HRes := Lib.hid (HR.out.trans hnil)
  clear hnil HR
  go_wp2_with fail
  rw [← HW.out]
  refine (Hmsg.out).mono ?_
  intro e wz hc
  obtain ⟨rfl, hbz⟩ := hc.ok
  have Hbz := Lib.hid (HbelW.out.trans (hbz.mono HbelW.out.size))
  clear hbz hc
  go_wp2
  go_ret
  rw [HRes.out]
  exact Wrote.mk0 Hbz.out

set_option maxRecDepth 100000 in
set_option maxHeartbeats 8000000 in
theorem wp_k0 (key : ByteArray) (x : V)  (hke : key.toList.isEmpty = false) (hk1 : key.size ≤ 140737488353000) (hk : (x.k == 0) = true) (w : World) (q1 q2 : Value) (hx : Rep Any w q1 q2 x) :
    Calls Tryz.prog 27 #[.agg (pv key x q1 q2)] w (Wrote (wpair key x) w) := by
  obtain ⟨adc, capc, rfl, _⟩ := hx.parts.2.1.form
  obtain ⟨add, capd, rfl, _⟩ := hx.parts.2.2.form
  have hkl : key.data.toList.length ≤ 9223372036854775807 := by have : key.data.toList.length = key.size := rfl; omega
  have hkf : keyf key = [bf 1 key.data.toList] := by unfold keyf; rw [hke]; rfl
  have hR : wpair key x = wrE ([bf 1 key.data.toList]) := by
    unfold wpair wpairE
    rw [if_pos (eq_of_beq hk), hkf]
  obtain ⟨W, hW⟩ : ∃ W, W = (w.alloc (.cells (pv key x (.slice adc x.l.length capc) (.slice add x.p.length capd)) 29)) := ⟨_, rfl⟩
  have hb0 : Below w.heap.size w W := by rw [hW]; exact al w _
  have HBW := Lib.hid (show W.heap[w.heap.size]? = some (.cells (pv key x (.slice adc x.l.length capc) (.slice add x.p.length capd)) 29 (0, 0)) by rw [hW]; exact blk_new w _)
  have HbelW := Lib.hid hb0
  have HrowW := Lib.hid (FRow.nil W w.heap.size)
  have HneW := Lib.hid (show ∀ k, (Value.slice none 0 0).ownBlock = some k → k ≠ w.heap.size from fun k hk => by simp [Value.ownBlock] at hk)
  have Hrep := Lib.hid (hx.under hb0)
  have HW := Lib.hid hW
  have Hkl := Lib.hid hkl
  have HR := Lib.hid hR
  clear hW hb0 hx hkf hk1 hR hkl 
  obtain ⟨a0, a1, a2, a3, a4, a5, a6, a7⟩ := At8.box HBW.out
  simp only [Nat.zero_add] at a0 a1 a2 a3 a4 a5 a6 a7
  go_enter Tryz.func27, Tryz.ntmps27
  go_wp2_with (at_builtin; refine wp_app_fd rfl _ _ rfl w.heap.size _ _ rfl (FRow.nil _ _) (bf 1 key.data.toList) #[.int .i64 1, .int .u8 2, .int .u64 0, .string key] (cs_key 1 key) _ rfl (by simp) (by simp) (al w _).size ?_)
  intro v1 W1 hrow hgr
  rw [← HW.out] at hgr
  have HrowW1 := Lib.hid (show FRow W1 w.heap.size v1 ([bf 1 key.data.toList]) from hrow)
  have HbelW1 := Lib.hid (HbelW.out.trans (hgr.below HbelW.out.size (fun k hk => by simp [Value.ownBlock] at hk)))
  have HBW1 := Lib.hid (hgr.blk HBW.out HneW.out)
  clear hrow hgr
  clear a0 a1 a2 a3 a4 a5 a6 a7
  obtain ⟨a0, a1, a2, a3, a4, a5, a6, a7⟩ := At8.box HBW1.out
  simp only [Nat.zero_add] at a0 a1 a2 a3 a4 a5 a6 a7
  obtain ⟨ad, cap, hv, hfl⟩ := HrowW1.out.flds (by intro f hf; simp at hf; subst hf; exact fine_bf 1 _ (by omega) Hkl.out) (by simp)
  obtain ⟨m, hm⟩ : ∃ m, m = ([bf 1 key.data.toList]).length := ⟨_, rfl⟩
  rw [← hm] at hv
  subst hv
  have Hmsg := Lib.hid (message_any W1 ad cap m ([bf 1 key.data.toList]) hm hfl)
  clear hm hfl
  cases hw : wrE ([bf 1 key.data.toList]) with
  | error c =>
    rw [hw] at Hmsg
    have HRes := Lib.hid hw
    clear hw
    go_wp2_with fail
    refine (Hmsg.out).mono ?_
    intro e wz hc
    obtain ⟨rfl, hbz⟩ := hc.no
    exact ⟨rfl, by rw [HR.out, HRes.out]; exact Wrote.mkn (HbelW1.out.trans (hbz.mono HbelW1.out.size))⟩
  | ok t2 =>
    rw [hw] at Hmsg
    have HRes := Lib.hid hw
    clear hw
    go_wp2_with fail
    refine (Hmsg.out).mono ?_
    intro e wz hc
    obtain ⟨rfl, hbz⟩ := hc.ok
    have Hbz := Lib.hid (HbelW1.out.trans (hbz.mono HbelW1.out.size))
    clear hbz hc
    go_wp2
    go_ret
    rw [HR.out, HRes.out]
    exact Wrote.mk0 Hbz.out

set_option maxRecDepth 100000 in
set_option maxHeartbeats 8000000 in
theorem wp_ev (key : ByteArray) (x : V) (ih : WrittenC x) (hke : key.toList.isEmpty = true) (hk1 : key.size ≤ 140737488353000) (hk : (x.k == 0) = false) (w : World) (q1 q2 : Value) (hx : Rep Any w q1 q2 x) :
    Calls Tryz.prog 27 #[.agg (pv key x q1 q2)] w (Wrote (wpair key x) w) := by
  obtain ⟨adc, capc, rfl, _⟩ := hx.parts.2.1.form
  obtain ⟨add, capd, rfl, _⟩ := hx.parts.2.2.form
  have hkl : key.data.toList.length ≤ 9223372036854775807 := by have : key.data.toList.length = key.size := rfl; omega
  have hkf : keyf key = [] := by unfold keyf; rw [hke]; rfl
  have hR : wpair key x = (match wmsg x with | .error e => .error e | .ok t => wrE [bf 2 t]) := by
    unfold wpair wpairE
    rw [if_neg (ne_of_beq_false hk), hkf]
    cases wmsg x <;> rfl
  obtain ⟨W, hW⟩ : ∃ W, W = (w.alloc (.cells (pv key x (.slice adc x.l.length capc) (.slice add x.p.length capd)) 29)) := ⟨_, rfl⟩
  have hb0 : Below w.heap.size w W := by rw [hW]; exact al w _
  have HBW := Lib.hid (show W.heap[w.heap.size]? = some (.cells (pv key x (.slice adc x.l.length capc) (.slice add x.p.length capd)) 29 (0, 0)) by rw [hW]; exact blk_new w _)
  have HbelW := Lib.hid hb0
  have HrowW := Lib.hid (FRow.nil W w.heap.size)
  have HneW := Lib.hid (show ∀ k, (Value.slice none 0 0).ownBlock = some k → k ≠ w.heap.size from fun k hk => by simp [Value.ownBlock] at hk)
  have Hrep := Lib.hid (hx.under hb0)
  have HW := Lib.hid hW
  have Hkl := Lib.hid hkl
  have Ih := Lib.hid ih
  have HR := Lib.hid hR
  clear hW hb0 hx hkf hk1 hR hkl ih
  obtain ⟨a0, a1, a2, a3, a4, a5, a6, a7⟩ := At8.box HBW.out
  simp only [Nat.zero_add] at a0 a1 a2 a3 a4 a5 a6 a7
  go_enter Tryz.func27, Tryz.ntmps27
  cases hm : wmsg x with
  | error c =>
    have HRc := Lib.hid (show wpair key x = .error c by rw [HR.out, hm])
    have Hcall := Lib.hid (Ih.out W _ _ Hrep.out)
    rw [hm] at Hcall
    clear hm
    go_wp2_with fail
    rw [← HW.out]
    refine (Hcall.out).mono ?_
    intro e wz hc
    obtain ⟨rfl, hbz⟩ := hc.no
    exact ⟨rfl, by rw [HRc.out]; exact Wrote.mkn (HbelW.out.trans (hbz.mono HbelW.out.size))⟩
  | ok t =>
    have Ht := Lib.hid (wmsg_short hm)
    have HR2 := Lib.hid (show wpair key x = wrE ([bf 2 t]) by rw [HR.out, hm])
    have Hcall := Lib.hid (Ih.out W _ _ Hrep.out)
    rw [hm] at Hcall
    clear hm HR
    have HR := HR2
    clear HR2
    go_wp2_with fail
    rw [← HW.out]
    refine (Hcall.out).mono ?_
    intro e W2 hc
    obtain ⟨rfl, hb2⟩ := hc.ok
    have HrowW2 := Lib.hid (HrowW.out.under hb2)
    have HbelW2 := Lib.hid (HbelW.out.trans (hb2.mono HbelW.out.size))
    clear hb2 hc a0 a1 a2 a3 a4 a5 a6 a7
    go_wp2_with (at_builtin; refine wp_app_fd rfl _ _ rfl w.heap.size _ _ rfl (HrowW2.out) (bf 2 t) (fcells 2 2 0 t) rfl _ rfl rfl (by simp) HbelW2.out.size ?_)
    intro v3 W3 hrow hgr
    have HrowW3 := Lib.hid (show FRow W3 w.heap.size v3 ([bf 2 t]) from hrow)
    have HbelW3 := Lib.hid (HbelW2.out.trans (hgr.below HbelW2.out.size (fun k hk => (HrowW2.out.lt k hk).1)))
    clear hrow hgr
    obtain ⟨ad, cap, hv, hfl⟩ := HrowW3.out.flds (by intro f hf; simp at hf; subst hf; exact fine_bf 2 _ (by omega) (by have := Ht.out; omega)) (by simp)
    obtain ⟨m, hm⟩ : ∃ m, m = ([bf 2 t]).length := ⟨_, rfl⟩
    rw [← hm] at hv
    subst hv
    have Hmsg := Lib.hid (message_any W3 ad cap m ([bf 2 t]) hm hfl)
    clear hm hfl
    cases hw : wrE ([bf 2 t]) with
    | error c =>
      rw [hw] at Hmsg
      have HRes := Lib.hid hw
      clear hw
      go_wp2_with fail
      refine (Hmsg.out).mono ?_
      intro e wz hc
      obtain ⟨rfl, hbz⟩ := hc.no
      exact ⟨rfl, by rw [HR.out, HRes.out]; exact Wrote.mkn (HbelW3.out.trans (hbz.mono HbelW3.out.size))⟩
    | ok t2 =>
      rw [hw] at Hmsg
      have HRes := Lib.hid hw
      clear hw
      go_wp2_with fail
      refine (Hmsg.out).mono ?_
      intro e wz hc
      obtain ⟨rfl, hbz⟩ := hc.ok
      have Hbz := Lib.hid (HbelW3.out.trans (hbz.mono HbelW3.out.size))
      clear hbz hc
      go_wp2
      go_ret
      rw [HR.out, HRes.out]
      exact Wrote.mk0 Hbz.out

set_option maxRecDepth 100000 in
set_option maxHeartbeats 8000000 in
theorem wp_kv (key : ByteArray) (x : V) (ih : WrittenC x) (hke : key.toList.isEmpty = false) (hk1 : key.size ≤ 140737488353000) (hk : (x.k == 0) = false) (w : World) (q1 q2 : Value) (hx : Rep Any w q1 q2 x) :
    Calls Tryz.prog 27 #[.agg (pv key x q1 q2)] w (Wrote (wpair key x) w) := by
  obtain ⟨adc, capc, rfl, _⟩ := hx.parts.2.1.form
  obtain ⟨add, capd, rfl, _⟩ := hx.parts.2.2.form
  have hkl : key.data.toList.length ≤ 9223372036854775807 := by have : key.data.toList.length = key.size := rfl; omega
  have hkf : keyf key = [bf 1 key.data.toList] := by unfold keyf; rw [hke]; rfl
  have hR : wpair key x = (match wmsg x with | .error e => .error e | .ok t => wrE [bf 1 key.data.toList, bf 2 t]) := by
    unfold wpair wpairE
    rw [if_neg (ne_of_beq_false hk), hkf]
    cases wmsg x <;> rfl
  obtain ⟨W, hW⟩ : ∃ W, W = (w.alloc (.cells (pv key x (.slice adc x.l.length capc) (.slice add x.p.length capd)) 29)) := ⟨_, rfl⟩
  have hb0 : Below w.heap.size w W := by rw [hW]; exact al w _
  have HBW := Lib.hid (show W.heap[w.heap.size]? = some (.cells (pv key x (.slice adc x.l.length capc) (.slice add x.p.length capd)) 29 (0, 0)) by rw [hW]; exact blk_new w _)
  have HbelW := Lib.hid hb0
  have HrowW := Lib.hid (FRow.nil W w.heap.size)
  have HneW := Lib.hid (show ∀ k, (Value.slice none 0 0).ownBlock = some k → k ≠ w.heap.size from fun k hk => by simp [Value.ownBlock] at hk)
  have Hrep := Lib.hid (hx.under hb0)
  have HW := Lib.hid hW
  have Hkl := Lib.hid hkl
  have Ih := Lib.hid ih
  have HR := Lib.hid hR
  clear hW hb0 hx hkf hk1 hR hkl ih
  obtain ⟨a0, a1, a2, a3, a4, a5, a6, a7⟩ := At8.box HBW.out
  simp only [Nat.zero_add] at a0 a1 a2 a3 a4 a5 a6 a7
  go_enter Tryz.func27, Tryz.ntmps27
  go_wp2_with (at_builtin; refine wp_app_fd rfl _ _ rfl w.heap.size _ _ rfl (FRow.nil _ _) (bf 1 key.data.toList) #[.int .i64 1, .int .u8 2, .int .u64 0, .string key] (cs_key 1 key) _ rfl (by simp) (by simp) (al w _).size ?_)
  intro v1 W1 hrow hgr
  rw [← HW.out] at hgr
  have HrowW1 := Lib.hid (show FRow W1 w.heap.size v1 ([bf 1 key.data.toList]) from hrow)
  have HbelW1 := Lib.hid (HbelW.out.trans (hgr.below HbelW.out.size (fun k hk => by simp [Value.ownBlock] at hk)))
  have HBW1 := Lib.hid (hgr.blk HBW.out HneW.out)
  have HW1 := Lib.hid (show Below W.heap.size W W1 from hgr.below (Nat.le_refl _) (fun k hk => by simp [Value.ownBlock] at hk))
  clear hrow hgr
  clear a0 a1 a2 a3 a4 a5 a6 a7
  obtain ⟨a0, a1, a2, a3, a4, a5, a6, a7⟩ := At8.box HBW1.out
  simp only [Nat.zero_add] at a0 a1 a2 a3 a4 a5 a6 a7
  cases hm : wmsg x with
  | error c =>
    have HRc := Lib.hid (show wpair key x = .error c by rw [HR.out, hm])
    have Hcall := Lib.hid (Ih.out W1 _ _ (Hrep.out.under HW1.out))
    rw [hm] at Hcall
    clear hm
    go_wp2_with fail
    refine (Hcall.out).mono ?_
    intro e wz hc
    obtain ⟨rfl, hbz⟩ := hc.no
    exact ⟨rfl, by rw [HRc.out]; exact Wrote.mkn (HbelW1.out.trans (hbz.mono HbelW1.out.size))⟩
  | ok t =>
    have Ht := Lib.hid (wmsg_short hm)
    have HR2 := Lib.hid (show wpair key x = wrE ([bf 1 key.data.toList, bf 2 t]) by rw [HR.out, hm])
    have Hcall := Lib.hid (Ih.out W1 _ _ (Hrep.out.under HW1.out))
    rw [hm] at Hcall
    clear hm HR
    have HR := HR2
    clear HR2
    go_wp2_with fail
    refine (Hcall.out).mono ?_
    intro e W2 hc
    obtain ⟨rfl, hb2⟩ := hc.ok
    have HrowW2 := Lib.hid (HrowW1.out.under hb2)
    have HbelW2 := Lib.hid (HbelW1.out.trans (hb2.mono HbelW1.out.size))
    clear hb2 hc a0 a1 a2 a3 a4 a5 a6 a7
    go_wp2_with (at_builtin; refine wp_app_fd rfl _ _ rfl w.heap.size _ _ rfl (HrowW2.out) (bf 2 t) (fcells 2 2 0 t) rfl _ rfl rfl (by simp) HbelW2.out.size ?_)
    intro v3 W3 hrow hgr
    have HrowW3 := Lib.hid (show FRow W3 w.heap.size v3 ([bf 1 key.data.toList, bf 2 t]) from hrow)
    have HbelW3 := Lib.hid (HbelW2.out.trans (hgr.below HbelW2.out.size (fun k hk => (HrowW2.out.lt k hk).1)))
    clear hrow hgr
    obtain ⟨ad, cap, hv, hfl⟩ := HrowW3.out.flds (by intro f hf; simp at hf; rcases hf with rfl | rfl; exact fine_bf 1 _ (by omega) Hkl.out; exact fine_bf 2 _ (by omega) (by have := Ht.out; omega)) (by simp)
    obtain ⟨m, hm⟩ : ∃ m, m = ([bf 1 key.data.toList, bf 2 t]).length := ⟨_, rfl⟩
    rw [← hm] at hv
    subst hv
    have Hmsg := Lib.hid (message_any W3 ad cap m ([bf 1 key.data.toList, bf 2 t]) hm hfl)
    clear hm hfl
    cases hw : wrE ([bf 1 key.data.toList, bf 2 t]) with
    | error c =>
      rw [hw] at Hmsg
      have HRes := Lib.hid hw
      clear hw
      go_wp2_with fail
      refine (Hmsg.out).mono ?_
      intro e wz hc
      obtain ⟨rfl, hbz⟩ := hc.no
      exact ⟨rfl, by rw [HR.out, HRes.out]; exact Wrote.mkn (HbelW3.out.trans (hbz.mono HbelW3.out.size))⟩
    | ok t2 =>
      rw [hw] at Hmsg
      have HRes := Lib.hid hw
      clear hw
      go_wp2_with fail
      refine (Hmsg.out).mono ?_
      intro e wz hc
      obtain ⟨rfl, hbz⟩ := hc.ok
      have Hbz := Lib.hid (HbelW3.out.trans (hbz.mono HbelW3.out.size))
      clear hbz hc
      go_wp2
      go_ret
      rw [HR.out, HRes.out]
      exact Wrote.mk0 Hbz.out

theorem wpair_of (key : ByteArray) (x : V) (ih : ¬ x.k = 0 → WrittenC x) (hk1 : key.size ≤ 140737488353000) : WPairC key x := by
  intro w q1 q2 hx
  cases he : key.toList.isEmpty <;> by_cases h0 : x.k = 0
  · exact wp_k0 key x he hk1 (by simp [h0]) w q1 q2 hx
  · exact wp_kv key x (ih h0) he hk1 (by simp [h0]) w q1 q2 hx
  · exact wp_e0 key x he hk1 (by simp [h0]) w q1 q2 hx
  · exact wp_ev key x (ih h0) he hk1 (by simp [h0]) w q1 q2 hx
end Go.Proofs.YtnnnnlcpmocnfaaGreatDoor
