/- MESSAGES OF VALUES: Write, WritePair, WALKED. -/
import Derived.Test.YtnnnnlcpmocnfaaGreatDoorWw4
import Derived.Test.YtnnnnlcpmocnfaaGreatDoorCk13
import Derived.Outline
import Derived.WalkLawsBesides
import Derived.Deep.RegionLaw
import Derived.Deep.RegionHeld3
namespace Go.Proofs.YtnnnnlcpmocnfaaGreatDoor
open Go.RowKit
set_option linter.unusedVariables false
set_option linter.unusedSimpArgs false
attribute [local go_sem] run_store_float

/-- what Write answers -/
noncomputable def writeR (x : V) : Except Int (List UInt8) := if chk x 0 = 0 then (match wmsg x with | .ok t => .ok t | .error c => .error (c : Int)) else .error (chk x 0)
noncomputable def writePR (key : ByteArray) (x : V) : Except Int (List UInt8) := if pairErr key x 0 = 0 then (match wpair key x with | .ok t => .ok t | .error c => .error (c : Int)) else .error (pairErr key x 0)
/-- what it answers, as a value -/
def wtup (r : Except Int (List UInt8)) : Value := match r with | .ok t => .tuple #[.string ⟨t.toArray⟩, .int .i64 0] | .error c => .tuple #[.string ⟨#[]⟩, .int .i64 c]
def WroteBoth (r : Except Int (List UInt8)) (w : World) (e : Ending) (w' : World) : Prop := e = .returned (wtup r) ∧ Below w.heap.size w w'
/-- what the closure leaves -/
def CloPost (h : Nat) (r : Except Int (List UInt8)) (w : World) (e : Ending) (w' : World) : Prop :=
  match r with
  | .error c => e = pan31 c ∧ Below w.heap.size w w'
  | .ok t => e = .returned (.tuple #[]) ∧ ∃ w2, Below w.heap.size w w2 ∧ w' = w2.setCell ⟨h, 0, none⟩ (.string ⟨t.toArray⟩)
theorem wmsg_err {x : V} {c : Nat} (h : wmsg x = .error c) : ¬ (c : Int) = 0 := by
  have key : ∀ fs c, wrE fs = .error c → ¬ (c : Int) = 0 := fun fs c h => by
    rcases wrE_cases fs with ⟨e, he, _, h2⟩ | ⟨_, h2, _⟩
    · rw [h2] at h; injection h with h; subst h; omega
    · rw [h2] at h; cases h
  revert c
  suffices h : ∀ (n : Nat) (x : V), SizeOf.sizeOf x ≤ n → ∀ c, wmsg x = .error c → ¬ (c : Int) = 0 from fun c hc => h _ x (Nat.le_refl _) c hc
  intro n
  induction n with
  | zero => intro x hx; cases x; simp only [V.mk.sizeOf_spec] at hx; omega
  | succ n ih =>
    intro x hx c hc
    have kj : ∀ (rs : List Res), (∀ c, Except.error c ∈ rs → ¬ (c : Int) = 0) → ∀ c, joined rs = .error c → ¬ (c : Int) = 0 := by
      intro rs
      induction rs with
      | nil => intro _ c h; cases h
      | cons a rs ihr =>
        intro hall c h
        cases a with
        | error e => injection h with h; subst h; exact hall e (by simp)
        | ok t =>
          have h' : (match joined rs with | .error e => Except.error e | .ok fs => .ok (bf 1 t :: fs)) = .error c := h
          cases hj : joined rs with
          | error e => rw [hj] at h'; injection h' with h'; subst h'; exact ihr (fun c hc => hall c (by simp [hc])) e hj
          | ok gs => rw [hj] at h'; cases h'
    have ka : ∀ (m : Int) (rs : List Res) (c : Nat), (∀ c, Except.error c ∈ rs → ¬ (c : Int) = 0) → around m (wjoin rs) = .error c → ¬ (c : Int) = 0 := fun m rs c hall h => by
      unfold wjoin at h
      cases hj : joined rs with
      | error e => rw [hj] at h; injection h with h; subst h; exact kj rs hall e hj
      | ok fs =>
        rw [hj] at h
        have h' : around m (wrE fs) = .error c := h
        cases hw : wrE fs with
        | error e => rw [hw] at h'; injection h' with h'; subst h'; exact key fs e hw
        | ok t => rw [hw] at h'; exact key [bf m t] c h'
    rw [wmsg_eq] at hc
    by_cases k1 : x.k = 1
    · rw [if_pos k1] at hc; exact key _ _ hc
    rw [if_neg k1] at hc
    by_cases k2 : x.k = 2
    · rw [if_pos k2] at hc; exact key _ _ hc
    rw [if_neg k2] at hc
    by_cases k3 : x.k = 3
    · rw [if_pos k3] at hc; exact key _ _ hc
    rw [if_neg k3] at hc
    by_cases k4 : x.k = 4
    · rw [if_pos k4] at hc; exact key _ _ hc
    rw [if_neg k4] at hc
    by_cases k5 : x.k = 5
    · rw [if_pos k5] at hc
      refine ka 5 _ c (fun c hm => ?_) hc
      obtain ⟨y, hy, he⟩ := List.mem_map.1 hm
      exact ih y (by have := V.size_l hy; omega) c he
    rw [if_neg k5] at hc
    by_cases k6 : x.k = 6
    · rw [if_pos k6] at hc
      refine ka 6 _ c (fun c hm => ?_) hc
      obtain ⟨y, hy, he⟩ := List.mem_map.1 hm
      unfold wpair wpairE at he
      split at he
      · exact key _ _ he
      · cases hw : wmsg y.2 with
        | error e => rw [hw] at he; injection he with he; subst he; exact ih y.2 (by have := V.size_p hy; omega) e hw
        | ok t => rw [hw] at he; exact key _ _ he
    rw [if_neg k6] at hc
    by_cases k7 : x.k = 7
    · rw [if_pos k7] at hc; exact key _ _ hc
    rw [if_neg k7] at hc
    cases hc
theorem wpair_err {key : ByteArray} {x : V} {c : Nat} (h : wpair key x = .error c) : ¬ (c : Int) = 0 := by
  have hk : ∀ fs c, wrE fs = .error c → ¬ (c : Int) = 0 := fun fs c h => by
    rcases wrE_cases fs with ⟨e, he, _, h2⟩ | ⟨_, h2, _⟩
    · rw [h2] at h; injection h with h; subst h; omega
    · rw [h2] at h; cases h
  unfold wpair wpairE at h
  split at h
  · exact hk _ _ h
  · cases hw : wmsg x with
    | error e => rw [hw] at h; injection h with h; subst h; exact wmsg_err hw
    | ok t => rw [hw] at h; exact hk _ _ h

theorem right_pair {key : ByteArray} {x : V} (h : pairErr key x 0 = 0) : Right x := by
  unfold pairErr at h
  by_cases hk : keyErr key = 0
  · rw [if_pos hk] at h; exact ⟨0, h⟩
  · rw [if_neg hk] at h; exact absurd h hk

set_option maxRecDepth 100000 in
set_option maxHeartbeats 8000000 in
/-- the closure of wrt -/
theorem wrt_clo (x : V) (w : World) (q1 q2 : Value) (g h : Nat) (hT : Tabs w) (hx : Rep Any w q1 q2 x) (hlh : h < w.heap.size) (hlg : g < w.heap.size) (hg : w.heap[g]? = some (.cells (cv x q1 q2) 27 (0, 0))) (hh : w.heap[h]? = some (.cells #[.string ⟨#[]⟩] 9 (0, 0))) :
    Calls Tryz.prog 17 #[.pointer (some ⟨g, 0, none⟩), .pointer (some ⟨h, 0, none⟩)] w (CloPost h (writeR x) w) := by
  have hx' := hx
  obtain ⟨adc, capc, rfl, _⟩ := hx.parts.2.1.form
  obtain ⟨add, capd, rfl, _⟩ := hx.parts.2.2.form
  obtain ⟨a0, a1, a2, a3, a4, a5, a6⟩ := At7.box hg
  simp only [Nat.zero_add] at a0 a1 a2 a3 a4 a5 a6
  have Hc := Lib.hid (cval_any x w _ _ 0 hT hx (by decide) (by decide))
  have Hg := Lib.hid hg
  have Hh := Lib.hid hh
  have Hlg := Lib.hid hlg
  have Hlh := Lib.hid hlh
  by_cases h0 : chk x 0 = 0
  · rw [h0] at Hc
    have Hwr := Lib.hid (written_any (⟨0, h0⟩))
    have Hx := Lib.hid hx
    have HR : writeR x = (match wmsg x with | .ok t => .ok t | .error c => .error (c : Int)) := by unfold writeR; rw [if_pos h0]
    have HRR := Lib.hid HR
    clear HR h0 hT hx hx' hg hh hlg hlh
    go_enter Tryz.func17, Tryz.ntmps17
    go_wp2_with fail
    refine (Hc.out).mono ?_
    intro e w1 hc
    obtain ⟨rfl, hb1⟩ := hc.ok
    have Hg1 := Lib.hid ((hb1.block g Hlg.out).trans Hg.out)
    have Hh1 := Lib.hid ((hb1.block h Hlh.out).trans Hh.out)
    have Hx1 := Lib.hid (Hx.out.under hb1)
    have Hb1 := Lib.hid hb1
    clear hb1 hc a0 a1 a2 a3 a4 a5 a6
    obtain ⟨a0, a1, a2, a3, a4, a5, a6⟩ := At7.box Hg1.out
    simp only [Nat.zero_add] at a0 a1 a2 a3 a4 a5 a6
    have Hcall := Lib.hid (Hwr.out w1 _ _ Hx1.out)
    cases hm : wmsg x with
    | error c =>
      rw [hm] at Hcall
      have HRc := Lib.hid (HRR.out.trans (by rw [hm]))
      clear hm
      go_wp2_with fail
      refine (Hcall.out).mono ?_
      intro e w2 hc
      obtain ⟨rfl, hb2⟩ := hc.no
      exact ⟨rfl, by rw [HRc.out]; exact ⟨rfl, Hb1.out.trans (hb2.mono Hb1.out.size)⟩⟩
    | ok t =>
      rw [hm] at Hcall
      have HRc := Lib.hid (HRR.out.trans (by rw [hm]))
      clear hm
      go_wp2_with fail
      refine (Hcall.out).mono ?_
      intro e w2 hc
      obtain ⟨rfl, hb2⟩ := hc.ok
      have hh2 := (hb2.block h (Nat.lt_of_lt_of_le Hlh.out Hb1.out.size)).trans Hh1.out
      have kc := cell_of_one hh2
      have kf := free_of_one hh2
      have Hb2 := Lib.hid (Hb1.out.trans (hb2.mono Hb1.out.size))
      clear hb2 hh2 hc a0 a1 a2 a3 a4 a5 a6
      go_wp2
      go_returns
      rw [HRc.out]
      exact ⟨rfl, _, Hb2.out, rfl⟩
  · have Hne := Lib.hid h0
    have HR : writeR x = .error (chk x 0) := by unfold writeR; rw [if_neg h0]
    rw [HR]
    generalize chk x 0 = cc at *
    clear HR h0 hT hx hx' hg hh hlg hlh
    go_enter Tryz.func17, Tryz.ntmps17
    go_wp2_with fail
    refine (Hc.out).mono ?_
    intro e w1 hc
    obtain ⟨rfl, hb1⟩ := hc.no Hne.out
    exact ⟨rfl, by exact ⟨rfl, hb1⟩⟩

set_option maxRecDepth 100000 in
set_option maxHeartbeats 4000000 in
theorem wrt_any2 (x : V) (w : World) (q1 q2 : Value) (hT : Tabs w) (hx : Rep Any w q1 q2 x) : Calls Tryz.prog 5 #[.agg (cv x q1 q2)] w (WroteBoth (writeR x) w) := by
  have hmf : ∀ (fn : Fn) (first cap : Array Value) (w : World), (Instr.makeFunc fn first cap).run Tryz.prog w = .ok (.func fn first cap) w := fun _ _ _ _ => rfl
  obtain ⟨W, hW⟩ : ∃ W, W = (w.alloc (.cells (cv x q1 q2) 27)).alloc (.cells #[.string ⟨#[]⟩] 9) := ⟨_, rfl⟩
  have hsz : W.heap.size = w.heap.size + 2 := by rw [hW]; simp
  have hbW : Below w.heap.size w W := by rw [hW]; go_grown
  have hbY : Below w.heap.size w (W.alloc (.cells #[.int .i64 0] 31)) := hbW.trans ((al W _).mono (by omega))
  have hg : (W.alloc (.cells #[.int .i64 0] 31)).heap[w.heap.size]? = some (.cells (cv x q1 q2) 27 (0, 0)) := by rw [hW]; exact blk_alloc (blk_alloc (blk_new w _) _) _
  have hh : (W.alloc (.cells #[.int .i64 0] 31)).heap[w.heap.size + 1]? = some (.cells #[.string ⟨#[]⟩] 9 (0, 0)) := by rw [hW]; exact blk_alloc (blk_at (by simp)) _
  have hcl := wrt_clo x (W.alloc (.cells #[.int .i64 0] 31)) q1 q2 w.heap.size (w.heap.size + 1) (hT.under hbY) (hx.under hbY) (by simp; omega) (by simp; omega) hg hh
  have h31 : ∀ w2, Below (W.alloc (.cells #[.int .i64 0] 31)).heap.size (W.alloc (.cells #[.int .i64 0] 31)) w2 → w2.heap[W.heap.size]? = some (.cells #[.int .i64 0] 31 (0, 0)) := fun w2 hb => (hb.block _ (by simp)).trans (blk_new W _)
  have hstr : ∀ w2, Below (W.alloc (.cells #[.int .i64 0] 31)).heap.size (W.alloc (.cells #[.int .i64 0] 31)) w2 → w2.heap[w.heap.size + 1]? = some (.cells #[.string ⟨#[]⟩] 9 (0, 0)) := fun w2 hb => (hb.block _ (by simp; omega)).trans hh
  have hbw : ∀ w2, Below (W.alloc (.cells #[.int .i64 0] 31)).heap.size (W.alloc (.cells #[.int .i64 0] 31)) w2 → Below w.heap.size w w2 := fun w2 hb => hbY.trans (hb.mono (by simp; omega))
  cases hr : writeR x with
  | error c =>
    rw [hr] at hcl
    have hca := caught_no W 17 #[.pointer (some ⟨w.heap.size, 0, none⟩), .pointer (some ⟨w.heap.size + 1, 0, none⟩)]
      (fun w1 => w1.heap[w.heap.size + 1]? = some (.cells #[.string ⟨#[]⟩] 9 (0, 0)) ∧ Below w.heap.size w w1) c (fun W => by kernel_rfl) (hcl.mono fun en w' h => by
        obtain ⟨he, hb⟩ := h
        exact ⟨he, h31 w' hb, hstr w' hb, hbw w' hb⟩)
    rw [hW] at hca
    have Hca := Lib.hid hca
    clear hca hcl hg hh h31 hstr hbw hT hx hr hbW hbY hsz hW
    go_enter Tryz.func5, Tryz.ntmps5
    go_wp2_with fail
    refine (Hca.out).mono ?_
    rintro e w' ⟨rfl, w1, ⟨hx, hb⟩, hy, rfl⟩
    have hc : (w1.setCell ⟨w.heap.size + 2, 0, none⟩ (.int .i64 c)).cell? ⟨w.heap.size + 1, 0, none⟩ = some (.string ⟨#[]⟩) := by
      refine cell_of_one (t := 9) ?_
      rw [Below.heap_setCell _ _ _ _ (by simp)]; exact hx
    have Hb := Lib.hid (hb.setCell (p := ⟨w.heap.size + 2, 0, none⟩) (by simp <;> omega) (.int .i64 c))
    clear hb hx hy
    go_wp2
    go_ret2
    exact ⟨rfl, Hb.out⟩
  | ok xs =>
    rw [hr] at hcl
    have hca := caught_ok W 17 #[.pointer (some ⟨w.heap.size, 0, none⟩), .pointer (some ⟨w.heap.size + 1, 0, none⟩)]
      (fun w1 => w1.heap[w.heap.size + 1]? = some (.cells #[.string ⟨xs.toArray⟩] 9 (0, 0)) ∧ Below w.heap.size w w1) (fun W => by kernel_rfl) (hcl.mono fun en w' h => by
        obtain ⟨he, w2, hb, rfl⟩ := h
        refine ⟨he, ?_, ?_, ?_⟩
        · rw [Below.heap_setCell _ _ _ _ (by simp; omega)]; exact h31 w2 hb
        · exact one_setCell (hstr w2 hb)
        · exact (hbw w2 hb).setCell (by simp) _)
    rw [hW] at hca
    have Hca := Lib.hid hca
    clear hca hcl hg hh h31 hstr hbw hT hx hr hbW hbY hsz hW
    go_enter Tryz.func5, Tryz.ntmps5
    go_wp2_with fail
    refine (Hca.out).mono ?_
    rintro e w' ⟨rfl, w1, ⟨hx, hb⟩, hy, rfl⟩
    have hc : (w1.setCell ⟨w.heap.size + 2, 0, none⟩ (.int .i64 0)).cell? ⟨w.heap.size + 1, 0, none⟩ = some (.string ⟨xs.toArray⟩) := by
      refine cell_of_one (t := 9) ?_
      rw [Below.heap_setCell _ _ _ _ (by simp)]; exact hx
    have Hb := Lib.hid (hb.setCell (p := ⟨w.heap.size + 2, 0, none⟩) (by simp <;> omega) (.int .i64 0))
    clear hb hx hy
    go_wp2
    go_ret2
    exact ⟨rfl, Hb.out⟩

set_option maxRecDepth 100000 in
set_option maxHeartbeats 8000000 in
/-- the closure of wrtp -/
theorem wrtp_clo (key : ByteArray) (hk : key.size ≤ 140737488353000) (x : V) (w : World) (q1 q2 : Value) (g h : Nat) (hT : Tabs w) (hx : Rep Any w q1 q2 x) (hlh : h < w.heap.size) (hlg : g < w.heap.size) (hg : w.heap[g]? = some (.cells (pv key x q1 q2) 29 (0, 0))) (hh : w.heap[h]? = some (.cells #[.string ⟨#[]⟩] 9 (0, 0))) :
    Calls Tryz.prog 25 #[.pointer (some ⟨g, 0, none⟩), .pointer (some ⟨h, 0, none⟩)] w (CloPost h (writePR key x) w) := by
  have hx' := hx
  obtain ⟨adc, capc, rfl, _⟩ := hx.parts.2.1.form
  obtain ⟨add, capd, rfl, _⟩ := hx.parts.2.2.form
  obtain ⟨a0, a1, a2, a3, a4, a5, a6, a7⟩ := At8.box hg
  simp only [Nat.zero_add] at a0 a1 a2 a3 a4 a5 a6 a7
  have Hc := Lib.hid (cpair_any key x w _ _ 0 hT hx hk (by decide) (by decide))
  have Hg := Lib.hid hg
  have Hh := Lib.hid hh
  have Hlg := Lib.hid hlg
  have Hlh := Lib.hid hlh
  by_cases h0 : pairErr key x 0 = 0
  · rw [h0] at Hc
    have Hwr := Lib.hid (wpair_any (right_pair h0) hk)
    have Hx := Lib.hid hx
    have HR : writePR key x = (match wpair key x with | .ok t => .ok t | .error c => .error (c : Int)) := by unfold writePR; rw [if_pos h0]
    have HRR := Lib.hid HR
    clear HR h0 hT hx hx' hg hh hlg hlh
    go_enter Tryz.func25, Tryz.ntmps25
    go_wp2_with fail
    refine (Hc.out).mono ?_
    intro e w1 hc
    obtain ⟨rfl, hb1⟩ := hc.ok
    have Hg1 := Lib.hid ((hb1.block g Hlg.out).trans Hg.out)
    have Hh1 := Lib.hid ((hb1.block h Hlh.out).trans Hh.out)
    have Hx1 := Lib.hid (Hx.out.under hb1)
    have Hb1 := Lib.hid hb1
    clear hb1 hc a0 a1 a2 a3 a4 a5 a6 a7
    obtain ⟨a0, a1, a2, a3, a4, a5, a6, a7⟩ := At8.box Hg1.out
    simp only [Nat.zero_add] at a0 a1 a2 a3 a4 a5 a6 a7
    have Hcall := Lib.hid (Hwr.out w1 _ _ Hx1.out)
    cases hm : wpair key x with
    | error c =>
      rw [hm] at Hcall
      have HRc := Lib.hid (HRR.out.trans (by rw [hm]))
      clear hm
      go_wp2_with fail
      refine (Hcall.out).mono ?_
      intro e w2 hc
      obtain ⟨rfl, hb2⟩ := hc.no
      exact ⟨rfl, by rw [HRc.out]; exact ⟨rfl, Hb1.out.trans (hb2.mono Hb1.out.size)⟩⟩
    | ok t =>
      rw [hm] at Hcall
      have HRc := Lib.hid (HRR.out.trans (by rw [hm]))
      clear hm
      go_wp2_with fail
      refine (Hcall.out).mono ?_
      intro e w2 hc
      obtain ⟨rfl, hb2⟩ := hc.ok
      have hh2 := (hb2.block h (Nat.lt_of_lt_of_le Hlh.out Hb1.out.size)).trans Hh1.out
      have kc := cell_of_one hh2
      have kf := free_of_one hh2
      have Hb2 := Lib.hid (Hb1.out.trans (hb2.mono Hb1.out.size))
      clear hb2 hh2 hc a0 a1 a2 a3 a4 a5 a6 a7
      go_wp2
      go_returns
      rw [HRc.out]
      exact ⟨rfl, _, Hb2.out, rfl⟩
  · have Hne := Lib.hid h0
    have HR : writePR key x = .error (pairErr key x 0) := by unfold writePR; rw [if_neg h0]
    rw [HR]
    generalize pairErr key x 0 = cc at *
    clear HR h0 hT hx hx' hg hh hlg hlh
    go_enter Tryz.func25, Tryz.ntmps25
    go_wp2_with fail
    refine (Hc.out).mono ?_
    intro e w1 hc
    obtain ⟨rfl, hb1⟩ := hc.no Hne.out
    exact ⟨rfl, by exact ⟨rfl, hb1⟩⟩

set_option maxRecDepth 100000 in
set_option maxHeartbeats 4000000 in
theorem wrtp_any2 (key : ByteArray) (hk : key.size ≤ 140737488353000) (x : V) (w : World) (q1 q2 : Value) (hT : Tabs w) (hx : Rep Any w q1 q2 x) : Calls Tryz.prog 9 #[.agg (pv key x q1 q2)] w (WroteBoth (writePR key x) w) := by
  have hmf : ∀ (fn : Fn) (first cap : Array Value) (w : World), (Instr.makeFunc fn first cap).run Tryz.prog w = .ok (.func fn first cap) w := fun _ _ _ _ => rfl
  obtain ⟨W, hW⟩ : ∃ W, W = (w.alloc (.cells (pv key x q1 q2) 29)).alloc (.cells #[.string ⟨#[]⟩] 9) := ⟨_, rfl⟩
  have hsz : W.heap.size = w.heap.size + 2 := by rw [hW]; simp
  have hbW : Below w.heap.size w W := by rw [hW]; go_grown
  have hbY : Below w.heap.size w (W.alloc (.cells #[.int .i64 0] 31)) := hbW.trans ((al W _).mono (by omega))
  have hg : (W.alloc (.cells #[.int .i64 0] 31)).heap[w.heap.size]? = some (.cells (pv key x q1 q2) 29 (0, 0)) := by rw [hW]; exact blk_alloc (blk_alloc (blk_new w _) _) _
  have hh : (W.alloc (.cells #[.int .i64 0] 31)).heap[w.heap.size + 1]? = some (.cells #[.string ⟨#[]⟩] 9 (0, 0)) := by rw [hW]; exact blk_alloc (blk_at (by simp)) _
  have hcl := wrtp_clo key hk x (W.alloc (.cells #[.int .i64 0] 31)) q1 q2 w.heap.size (w.heap.size + 1) (hT.under hbY) (hx.under hbY) (by simp; omega) (by simp; omega) hg hh
  have h31 : ∀ w2, Below (W.alloc (.cells #[.int .i64 0] 31)).heap.size (W.alloc (.cells #[.int .i64 0] 31)) w2 → w2.heap[W.heap.size]? = some (.cells #[.int .i64 0] 31 (0, 0)) := fun w2 hb => (hb.block _ (by simp)).trans (blk_new W _)
  have hstr : ∀ w2, Below (W.alloc (.cells #[.int .i64 0] 31)).heap.size (W.alloc (.cells #[.int .i64 0] 31)) w2 → w2.heap[w.heap.size + 1]? = some (.cells #[.string ⟨#[]⟩] 9 (0, 0)) := fun w2 hb => (hb.block _ (by simp; omega)).trans hh
  have hbw : ∀ w2, Below (W.alloc (.cells #[.int .i64 0] 31)).heap.size (W.alloc (.cells #[.int .i64 0] 31)) w2 → Below w.heap.size w w2 := fun w2 hb => hbY.trans (hb.mono (by simp; omega))
  cases hr : writePR key x with
  | error c =>
    rw [hr] at hcl
    have hca := caught_no W 25 #[.pointer (some ⟨w.heap.size, 0, none⟩), .pointer (some ⟨w.heap.size + 1, 0, none⟩)]
      (fun w1 => w1.heap[w.heap.size + 1]? = some (.cells #[.string ⟨#[]⟩] 9 (0, 0)) ∧ Below w.heap.size w w1) c (fun W => by kernel_rfl) (hcl.mono fun en w' h => by
        obtain ⟨he, hb⟩ := h
        exact ⟨he, h31 w' hb, hstr w' hb, hbw w' hb⟩)
    rw [hW] at hca
    have Hca := Lib.hid hca
    clear hca hcl hg hh h31 hstr hbw hT hx hr hbW hbY hsz hW
    go_enter Tryz.func9, Tryz.ntmps9
    go_wp2_with fail
    refine (Hca.out).mono ?_
    rintro e w' ⟨rfl, w1, ⟨hx, hb⟩, hy, rfl⟩
    have hc : (w1.setCell ⟨w.heap.size + 2, 0, none⟩ (.int .i64 c)).cell? ⟨w.heap.size + 1, 0, none⟩ = some (.string ⟨#[]⟩) := by
      refine cell_of_one (t := 9) ?_
      rw [Below.heap_setCell _ _ _ _ (by simp)]; exact hx
    have Hb := Lib.hid (hb.setCell (p := ⟨w.heap.size + 2, 0, none⟩) (by simp <;> omega) (.int .i64 c))
    clear hb hx hy
    go_wp2
    go_ret2
    exact ⟨rfl, Hb.out⟩
  | ok xs =>
    rw [hr] at hcl
    have hca := caught_ok W 25 #[.pointer (some ⟨w.heap.size, 0, none⟩), .pointer (some ⟨w.heap.size + 1, 0, none⟩)]
      (fun w1 => w1.heap[w.heap.size + 1]? = some (.cells #[.string ⟨xs.toArray⟩] 9 (0, 0)) ∧ Below w.heap.size w w1) (fun W => by kernel_rfl) (hcl.mono fun en w' h => by
        obtain ⟨he, w2, hb, rfl⟩ := h
        refine ⟨he, ?_, ?_, ?_⟩
        · rw [Below.heap_setCell _ _ _ _ (by simp; omega)]; exact h31 w2 hb
        · exact one_setCell (hstr w2 hb)
        · exact (hbw w2 hb).setCell (by simp) _)
    rw [hW] at hca
    have Hca := Lib.hid hca
    clear hca hcl hg hh h31 hstr hbw hT hx hr hbW hbY hsz hW
    go_enter Tryz.func9, Tryz.ntmps9
    go_wp2_with fail
    refine (Hca.out).mono ?_
    rintro e w' ⟨rfl, w1, ⟨hx, hb⟩, hy, rfl⟩
    have hc : (w1.setCell ⟨w.heap.size + 2, 0, none⟩ (.int .i64 0)).cell? ⟨w.heap.size + 1, 0, none⟩ = some (.string ⟨xs.toArray⟩) := by
      refine cell_of_one (t := 9) ?_
      rw [Below.heap_setCell _ _ _ _ (by simp)]; exact hx
    have Hb := Lib.hid (hb.setCell (p := ⟨w.heap.size + 2, 0, none⟩) (by simp <;> omega) (.int .i64 0))
    clear hb hx hy
    go_wp2
    go_ret2
    exact ⟨rfl, Hb.out⟩
end Go.Proofs.YtnnnnlcpmocnfaaGreatDoor
