/- CONF: THE WALKS OVER slices.Clone at texts, and at no keys; clone of a node with no keys. -/
import Derived.Test.YtegobomfhdfodaaGreatDoorCx
import Derived.Test.YtegobomfhdfodaaGreatDoorDb0
namespace Go.Proofs.YtegobomfhdfodaaGreatDoor
open Go.RowKit
set_option maxRecDepth 100000
set_option linter.unusedVariables false
set_option linter.unusedSimpArgs false

theorem eq29 (a : Option Addr) (n c : Nat) (W : World) : (binOp .eql 29 (.slice a n c) (.slice none 0 0)).run Tryz.prog W = .ok (.bool a.isNone) W := by cases a <;> kernel_rfl
theorem eq30 (a : Option Addr) (n c : Nat) (W : World) : (binOp .eql 30 (.slice a n c) (.slice none 0 0)).run Tryz.prog W = .ok (.bool a.isNone) W := by cases a <;> kernel_rfl
set_option maxHeartbeats 2000000 in
theorem tclone_some {B : Nat → Prop} (w : World) (a : Addr) (cap : Nat) (l : List K.T) (hq : RepT B w (.slice (some a) l.length cap) l) (h16 : l.length * 16 ≤ 140737488353000) :
    Calls Tryz.prog 65 #[.slice (some a) l.length cap] w fun e w' => ∃ v, e = .returned v ∧ Txs w.heap.size v l w' ∧ Below w.heap.size w w' := by
  obtain ⟨i0, hi, hz0, hz1, hz2⟩ := info_parts Tryz.info9
  have hcells : ∀ (j : Nat) (u : Value), (l.map S)[j]? = some u → (w.alloc (.cells #[] 9)).cell? (a.add j) = some u := by
    intro j u hj
    rw [List.getElem?_map] at hj
    cases hlj : l[j]? with
    | none => rw [hlj] at hj; cases hj
    | some s =>
      rw [hlj] at hj
      have hj : S s = u := Option.some.inj hj
      obtain ⟨g, o, ha, hg, hc, _⟩ := hq.at hlj
      injection ha with ha
      subst ha
      subst hj
      rw [show (⟨g, o, none⟩ : Addr).add j = ⟨g, o + j, none⟩ by unfold Addr.add; split <;> simp_all]
      exact (cell_block (((Below.refl _ w).alloc (Nat.le_refl _) _).block g hg) _).trans hc
  have Hc := Lib.hid hcells
  obtain ⟨n, hn⟩ : ∃ n, l.length = n := ⟨_, rfl⟩
  have Hl := Lib.hid (show (l.map S).length = n * 1 by rw [List.length_map]; omega)
  have Hn := Lib.hid hn
  have hown := World.ownsRow_lit (base := w.heap.size) (e := 9) (size := 1) w #[] 0 (Nat.le_refl _) (by simp [maxLen]) rfl
  have Hown := Lib.hid hown
  have hone : ∀ u ∈ l.map S, u.oneCell' = true := by intro u hu; obtain ⟨x, _, rfl⟩ := List.mem_map.1 hu; rfl
  have Hone := Lib.hid hone
  have hq' := eq29 (some a) n cap
  simp only [Option.isNone_some] at hq'
  rw [hn] at h16 ⊢
  clear hcells hn hown hone hq
  go_enter Tryz.func65, Tryz.ntmps65
  go_wp2_with (at_builtin; refine wpList_append_own_at _ rfl _ _ 29 rfl w.heap.size 9 i0 _ 1 16 Tryz.underlying29 hi hz0 hz1 hz2 rfl (by decide) (.slice (some ⟨w.heap.size, 0, none⟩) 0 0) 0 _ rfl Hown.out a n cap (l.map S) rfl Hl.out Hc.out Hone.out (by simp [maxLen]; omega) (by omega) (by simp) ?_)
  intro v' w' h1 h2 _ _
  have Hb := Lib.hid (((Below.refl w.heap.size w).alloc (Nat.le_refl _) (.cells #[] 9)).grown h2 (by simp) (fun k hk => by simp [Value.ownBlock] at hk; omega))
  have Hr := Lib.hid (show Txs w.heap.size v' l w' by unfold Txs; rw [Hn.out]; simpa using h1)
  clear h1 h2
  go_wp2
  refine bodyPost_ret (v := v') (by simp [results, Tryz.results65, go_sem]) rfl ?_
  exact ⟨v', rfl, Hr.out, Hb.out⟩
theorem tclone_none (w : World) (n c : Nat) : Calls Tryz.prog 65 #[.slice none n c] w fun e w' => e = .returned (.slice none 0 0) ∧ w = w' := by
  have hq := eq29 none n c
  simp only [Option.isNone_none] at hq
  go_enter Tryz.func65, Tryz.ntmps65
  go_wp2
  refine bodyPost_ret (v := .slice none 0 0) (by simp [results, Tryz.results65, go_sem]) rfl ?_
  exact ⟨rfl, rfl⟩
theorem tclone_any {B : Nat → Prop} (w : World) (q : Value) (l : List K.T) (hq : RepT B w q l) (h16 : l.length * 16 ≤ 140737488353000) :
    Calls Tryz.prog 65 #[q] w fun e w' => ∃ v, e = .returned v ∧ Txs w.heap.size v l w' ∧ Below w.heap.size w w' := by
  obtain ⟨ad, cap, rfl, hl⟩ := hq.form
  cases ad with
  | some a => exact tclone_some w a cap l hq h16
  | none =>
    have hx : l = [] := by
      cases l with
      | nil => rfl
      | cons y r =>
        obtain ⟨g, o, e, _⟩ := hq.at (i := 0) (y := y) rfl
        cases e
    subst hx
    exact (tclone_none w _ cap).mono fun e w' ⟨h1, h2⟩ => ⟨_, h1, World.ownsRow_nil _ _ _ _, by rw [h2]; exact Below.refl _ _⟩
/-- keys cloned: a row of the call's own with the same cells -/
abbrev KE : Type := K.T × Nd × Value × Value
def kcs (e : KE) : List Value := [S e.1, .int .u8 (e.2.1.k : Int), S e.2.1.s, e.2.2.1, e.2.2.2]
set_option maxHeartbeats 2000000 in
theorem kclone_some {B : Nat → Prop} (w : World) (a : Addr) (cap : Nat) (l : List (K.T × Nd)) (hq : RepK B w (.slice (some a) l.length cap) l) (h88 : l.length * 88 ≤ 140737488353000) :
    Calls Tryz.prog 66 #[.slice (some a) l.length cap] w fun e w' => ∃ v, e = .returned v ∧ (∃ es : List KE, es.map (fun e => (e.1, e.2.1)) = l ∧ (∀ e ∈ es, Rep B w e.2.2.1 e.2.2.2 e.2.1) ∧ w'.ownsRow w.heap.size 44 5 v l.length (es.flatMap kcs)) ∧ Below w.heap.size w w' := by
  obtain ⟨i0, hi, hz0, hz1, hz2⟩ := info_parts Tryz.info44
  obtain ⟨g, o, c, d, ⟨ad', cap', h1, _, h3⟩, h4⟩ := hq
  injection h1 with e1 e2 e3
  subst e1
  obtain ⟨es, hes⟩ : ∃ es : List KE, es = l.mapIdx fun i y => (y.1, y.2, c i, d i) := ⟨_, rfl⟩
  have hget : ∀ i : Nat, es[i]? = (l[i]?).map fun y => (y.1, y.2, c i, d i) := fun i => by rw [hes, List.getElem?_mapIdx]
  have hmap : es.map (fun e => (e.1, e.2.1)) = l := by
    apply List.ext_getElem?
    intro i
    rw [List.getElem?_map, hget]
    cases l[i]? <;> rfl
  have hrep : ∀ e ∈ es, Rep B w e.2.2.1 e.2.2.2 e.2.1 := by
    intro e he
    obtain ⟨i, hi⟩ := List.getElem?_of_mem he
    rw [hget] at hi
    cases hl : l[i]? with
    | none => rw [hl] at hi; cases hi
    | some y => rw [hl] at hi; have hi := Option.some.inj hi; subst hi; exact (h4 i y hl).2.2
  have hlen : es.length = l.length := by rw [← hmap, List.length_map]
  have hcl : (es.flatMap kcs).length = es.length * 5 := by
    clear hget hmap hrep hlen hes
    induction es with
    | nil => rfl
    | cons y r ih => rw [List.flatMap_cons, List.length_append, ih, List.length_cons]; simp [kcs]; omega
  have hgetc : ∀ (m : List KE) (j : Nat) (u : Value), (m.flatMap kcs)[j]? = some u → ∃ i e, m[i]? = some e ∧ ∃ r, r < 5 ∧ j = i * 5 + r ∧ (kcs e)[r]? = some u := by
    intro m
    induction m with
    | nil => intro j u h; simp at h
    | cons y t ih =>
      intro j u h
      rw [List.flatMap_cons] at h
      by_cases hj : j < 5
      · rw [List.getElem?_append_left (by simpa [kcs] using hj)] at h
        exact ⟨0, y, rfl, j, hj, by omega, h⟩
      · rw [List.getElem?_append_right (by simp [kcs]; omega)] at h
        obtain ⟨i, e, hi, r, hr, hjr, hu⟩ := ih _ _ h
        exact ⟨i + 1, e, hi, r, hr, by simp [kcs] at hjr; omega, hu⟩
  have hcells : ∀ (j : Nat) (u : Value), (es.flatMap kcs)[j]? = some u → (w.alloc (.cells #[] 44)).cell? (a.add j) = some u := by
    intro j u hj
    obtain ⟨i, e, hie, r, hr, rfl, hu⟩ := hgetc es j u hj
    rw [hget] at hie
    cases hl : l[i]? with
    | none => rw [hl] at hie; cases hie
    | some y =>
      rw [hl] at hie
      have hie := Option.some.inj hie
      subst hie
      obtain ⟨e0, hg, hlt⟩ := h3 (Nat.lt_of_le_of_lt (Nat.zero_le i) (lt_of_get hl))
      injection e0 with e0
      subst e0
      obtain ⟨a0, a1, a2, a3, a4⟩ := (h4 i y hl).1
      rw [show (⟨g, o, none⟩ : Addr).add (i * 5 + r) = ⟨g, o + i * 5 + r, none⟩ by unfold Addr.add; split <;> simp_all <;> omega]
      refine (cell_block (((Below.refl _ w).alloc (Nat.le_refl _) _).block g hlt) _).trans ?_
      match r, hr, hu with
      | 0, _, hu => exact a0.trans hu
      | 1, _, hu => exact a1.trans hu
      | 2, _, hu => exact a2.trans hu
      | 3, _, hu => exact a3.trans hu
      | 4, _, hu => exact a4.trans hu
  have hone : ∀ u ∈ es.flatMap kcs, u.oneCell' = true := by
    intro u hu
    obtain ⟨e, he, hu⟩ := List.mem_flatMap.1 hu
    have hr := hrep e he
    obtain ⟨x1, x2, hx, _⟩ := hr.parts.2.1.form
    obtain ⟨y1, y2, hy, _⟩ := hr.parts.2.2.form
    simp only [kcs, hx, hy, List.mem_cons, List.not_mem_nil, or_false] at hu
    rcases hu with rfl | rfl | rfl | rfl | rfl <;> rfl
  have Hc := Lib.hid hcells
  obtain ⟨n, hn⟩ : ∃ n, l.length = n := ⟨_, rfl⟩
  have Hl := Lib.hid (show (es.flatMap kcs).length = n * 5 by rw [hcl, hlen, hn])
  have hown := World.ownsRow_lit (base := w.heap.size) (e := 44) (size := 5) w #[] 0 (Nat.le_refl _) (by simp [maxLen]) rfl
  have Hown := Lib.hid hown
  have Hone := Lib.hid hone
  have Hes := Lib.hid (And.intro hmap hrep)
  have hq' := eq30 (some a) n cap
  simp only [Option.isNone_some] at hq'
  rw [hn] at h88 ⊢
  clear hcells hn hown hone hcl hgetc hlen hget hes hmap hrep h4 h3 e2 e3
  go_enter Tryz.func66, Tryz.ntmps66
  go_wp2_with (at_builtin; refine wpList_append_own_at _ rfl _ _ 30 rfl w.heap.size 44 i0 _ 5 88 Tryz.underlying30 hi hz0 hz1 hz2 rfl (by decide) (.slice (some ⟨w.heap.size, 0, none⟩) 0 0) 0 _ rfl Hown.out a n cap (es.flatMap kcs) rfl Hl.out Hc.out Hone.out (by simp [maxLen]; omega) (by omega) (by simp) ?_)
  intro v' w' h1 h2 _ _
  have Hb := Lib.hid (((Below.refl w.heap.size w).alloc (Nat.le_refl _) (.cells #[] 44)).grown h2 (by simp) (fun k hk => by simp [Value.ownBlock] at hk; omega))
  have Hr := Lib.hid (show w'.ownsRow w.heap.size 44 5 v' n (es.flatMap kcs) by simpa using h1)
  clear h1 h2
  go_wp2
  refine bodyPost_ret (v := v') (by simp [results, Tryz.results66, go_sem]) rfl ?_
  exact ⟨v', rfl, ⟨es, Hes.out.1, Hes.out.2, Hr.out⟩, Hb.out⟩
theorem kclone_none (w : World) (n c : Nat) : Calls Tryz.prog 66 #[.slice none n c] w fun e w' => e = .returned (.slice none 0 0) ∧ w = w' := by
  have hq := eq30 none n c
  simp only [Option.isNone_none] at hq
  go_enter Tryz.func66, Tryz.ntmps66
  go_wp2
  refine bodyPost_ret (v := .slice none 0 0) (by simp [results, Tryz.results66, go_sem]) rfl ?_
  exact ⟨rfl, rfl⟩
theorem kclone_any {B : Nat → Prop} (w : World) (q : Value) (l : List (K.T × Nd)) (hq : RepK B w q l) (h88 : l.length * 88 ≤ 140737488353000) :
    Calls Tryz.prog 66 #[q] w fun e w' => ∃ v, e = .returned v ∧ (∃ es : List KE, es.map (fun e => (e.1, e.2.1)) = l ∧ (∀ e ∈ es, Rep B w e.2.2.1 e.2.2.2 e.2.1) ∧ w'.ownsRow w.heap.size 44 5 v l.length (es.flatMap kcs)) ∧ Below w.heap.size w w' := by
  obtain ⟨ad, cap, rfl, hl⟩ := hq.form
  cases ad with
  | some a => exact kclone_some w a cap l hq h88
  | none =>
    have hx : l = [] := by
      cases l with
      | nil => rfl
      | cons y r =>
        obtain ⟨g, o, c, d, e, _⟩ := hq.at (i := 0) (y := y) rfl
        cases e
    subst hx
    exact (kclone_none w _ cap).mono fun e w' ⟨h1, h2⟩ => ⟨_, h1, ⟨[], rfl, fun e he => absurd he (by simp), World.ownsRow_nil _ _ _ _⟩, by rw [h2]; exact Below.refl _ _⟩
end Go.Proofs.YtegobomfhdfodaaGreatDoor
