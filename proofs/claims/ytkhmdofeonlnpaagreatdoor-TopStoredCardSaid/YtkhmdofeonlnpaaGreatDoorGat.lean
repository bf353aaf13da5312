/- QUEUE: WHAT HOLDS BETWEEN TWO ROUNDS OF entries. -/
import Derived.Test.YtkhmdofeonlnpaaGreatDoorGas
import Derived.Maps.OwnIn
import Derived.Maps.OwnSet
import Derived.OpenShut
import Derived.Maps.AppendAt
namespace Go.Proofs.YtkhmdofeonlnpaaGreatDoor
open Go.RowKit Go.Shelf
attribute [local go_sem] Oper.semAt_some
set_option maxRecDepth 100000
set_option linter.unusedVariables false
set_option linter.unusedSimpArgs false

theorem Tryz.underlying25 : Tryz.prog.underlying 25 = some (.int .u64) := by kernel_rfl
theorem Tryz.underlying118 : Tryz.prog.underlying 118 = some (.map 25 126) := by kernel_rfl
theorem Tryz.law25 : Go.Maps.Keyed Tryz.prog 25 := Go.Maps.int_keyed Tryz.underlying25
theorem Tryz.zero126 (w : World) : (zeroValue 126).run Tryz.prog w = .ok (.agg #[]) w := by kernel_rfl

theorem app_ent2 (X : World) (base : Nat) (v : Value) (l : List E) (s : E) (hb : base ≤ X.heap.size) (hrow : ERow X base v l) (hn : l.length ≤ 1000000000) :
    ∃ v' w', (Builtin.append_ #[28, 28] 28 #[v, .slice (some ⟨X.heap.size, 0, none⟩) 1 1]).run Tryz.prog (X.alloc (.cells (ecells s) 39)) = .ok v' w' ∧ ERow w' base v' (l ++ [s]) ∧ (X.alloc (.cells (ecells s) 39)).grownBy w' v.ownBlock := by
  obtain ⟨i0, hi, hz0, hz1, hz2⟩ := info_parts Tryz.info39
  have hblk := blk_new X (.cells (ecells s) 39)
  have hcell : ∀ j u, (ec s)[j]? = some u → (X.alloc (.cells (ecells s) 39)).cell? ((⟨X.heap.size, 0, none⟩ : Addr).add j) = some u := fun j u hj => by
    have h0 := cell_of_row _ X.heap.size j _ 39 (0, 0) hblk
    rw [Addr.add_lit, Nat.zero_add, h0]
    simpa [ec] using hj
  obtain ⟨v', w', hr, ho, hg, _, hob⟩ := run_append_own_at (P := Tryz.prog) (X.alloc (.cells (ecells s) 39)) base 28 28 39 i0 _ 3 32 Tryz.underlying28 hi hz0 hz1 hz2 rfl (by decide) v l.length _ (World.ownsRow.alloc hrow _) ⟨X.heap.size, 0, none⟩ 1 1 (ec s) (by simp [ec]) hcell (fun u hu => by
    simp only [ec, List.mem_cons, List.not_mem_nil, or_false] at hu
    rcases hu with rfl | rfl | rfl <;> rfl) (by simp [maxLen]; omega) (by omega) (by simp; omega)
  refine ⟨v', w', hr, ?_, hg⟩
  refine ERow.of_own (n := l.length + 1) ?_
  rw [List.flatMap_append, List.flatMap_singleton]
  exact ho

/-- the records that were seen, as they stand -/
def sfx (pre : List (Nat × Rec)) : List Rec := (pre.map Prod.snd).reverse
theorem sfx_snoc (pre : List (Nat × Rec)) (x : Nat × Rec) : sfx (pre ++ [x]) = x.2 :: sfx pre := by simp [sfx]
/-- the set of numbers that are gone, in block g -/
def Gone (W : World) (g n : Nat) (l : List Nat) : Prop := ∃ D : DataW Unit, W.ownsMap Tryz.prog 25 unitElem g n D ∧ ∀ s : Nat, Maps.has D (.int .u64 (s : Int)) = decide (s ∈ l)
structure EM (B : Nat) (gl : List Nat) (el : List E) (n : Nat) (W : World) : Prop where
  v : ∃ v, W.heap[B]? = some (.cells #[v] 28 (0, 0)) ∧ ERow W (B + 4) v el
  m : W.heap[B + 2]? = some (.cells #[.map (some (B + 1))] 118 (0, 0))
  g : Gone W (B + 1) n gl
theorem EM.kept {B n : Nat} {gl : List Nat} {el : List E} {W W' : World} {row : Option Nat} (h : EM B gl el n W) (hg : W.grownBy W' row) (hr : ∀ r, row = some r → B + 4 ≤ r ∧ ∃ o : Obj, W.heap[r]? = some o ∧ o.isCells = false) : EM B gl el n W' := by
  obtain ⟨⟨v, h1, h2⟩, h3, D, h4, h5⟩ := h
  have ne : ∀ k, k < B + 4 → some k ≠ row := fun k hk e => by have := (hr k e.symm).1; omega
  refine ⟨⟨v, (hg.block B (Array.getElem?_eq_some_iff.1 h1).1 (ne B (by omega))).trans h1, ?_⟩, (hg.block _ (Array.getElem?_eq_some_iff.1 h3).1 (ne _ (by omega))).trans h3, D, h4.kept hg (ne _ (by omega)), h5⟩
  refine h2.kept hg ?_
  cases hv : v.ownBlock with
  | none => exact .inl rfl
  | some k =>
    refine .inr fun e => ?_
    rcases h2.2 with ⟨hv2, _⟩ | ⟨g, cap, cur, hv2, _, hgc, _⟩
    · rw [hv2] at hv; simp [Value.ownBlock] at hv
    · rw [hv2] at hv
      simp [Value.ownBlock] at hv
      subst hv
      obtain ⟨_, o, ho, hc⟩ := hr g e.symm
      rw [hgc] at ho; cases ho; cases hc
theorem EM.below {B n : Nat} {gl : List Nat} {el : List E} {W X : World} (h : EM B gl el n W) (hb : Below W.heap.size W X) : EM B gl el n X :=
  h.kept (row := none) ⟨hb.os, hb.tape, hb.output, hb.size, fun k hk _ => hb.block k hk⟩ (fun r e => by cases e)
/-- a number is gone -/
theorem Gone.put {W W' : World} {g n : Nat} {l : List Nat} (D : DataW Unit) (h2 : ∀ s : Nat, Maps.has D (.int .u64 (s : Int)) = decide (s ∈ l)) (hm : Maps.IsMap D) {k : Nat} (hk : k < 18446744073709551616) (h : W'.ownsMap Tryz.prog 25 unitElem g (n + 1) (D.put (.int .u64 (k : Int)) (.agg []))) : Gone W' g (n + 1) (k :: l) := by
  refine ⟨_, h, fun s => ?_⟩
  by_cases e : s = k
  · subst e
    rw [Maps.has_put_same hm (by trivial)]
    simp
  · rw [Maps.has_put_other (by intro e2; injection e2 with _ e3; omega), h2 s]
    simp [e]
/-- the set's block is turned alone -/
theorem EM.turn {B n : Nat} {gl gl' : List Nat} {el : List E} {W W' : World} (h : EM B gl el n W) (hg : W.grownBy W' (some (B + 1))) (h' : Gone W' (B + 1) (n + 1) gl') : EM B gl' el (n + 1) W' := by
  obtain ⟨⟨v, h1, h2⟩, h3, _⟩ := h
  refine ⟨⟨v, (hg.block B (Array.getElem?_eq_some_iff.1 h1).1 (by simp)).trans h1, h2.kept hg (.inr (fun e => by have := (h2.lt _ e).1; omega))⟩, (hg.block _ (Array.getElem?_eq_some_iff.1 h3).1 (by simp)).trans h3, h'⟩
theorem EM.more {B n : Nat} {gl : List Nat} {el : List E} {W : World} (h : EM B gl el n W) : EM B gl el (n + 1) W := by
  obtain ⟨h1, h2, D, h3, h4⟩ := h
  exact ⟨h1, h2, D, h3.mono (by omega), h4⟩
/-- an entry is put behind the others -/
theorem EM.app {B n : Nat} {gl : List Nat} {el : List E} {W : World} (h : EM B gl el n W) (hB : B + 4 ≤ W.heap.size) (hn : el.length ≤ 1000000000) (e : E) (v : Value) (hv : W.heap[B]? = some (.cells #[v] 28 (0, 0))) :
    ∃ v' w', (∃ ad n cap, v' = .slice ad n cap) ∧ (Builtin.append_ #[28, 28] 28 #[v, .slice (some ⟨W.heap.size, 0, none⟩) 1 1]).run Tryz.prog (W.alloc (.cells (ecells e) 39)) = .ok v' w' ∧ w'.heap[B]? = some (.cells #[v] 28 (0, 0)) ∧ W.heap.size ≤ w'.heap.size ∧
      EM B gl (el ++ [e]) n (w'.setCell ⟨B, 0, none⟩ v') ∧ KeepsFrom (B + 4) W (w'.setCell ⟨B, 0, none⟩ v') ∧ Keep3 (B + 4) B W (w'.setCell ⟨B, 0, none⟩ v') ∧ (∀ b0 (w0 : World), b0 ≤ B → Below b0 w0 W → Below b0 w0 (w'.setCell ⟨B, 0, none⟩ v')) := by
  obtain ⟨⟨v2, h1, h2⟩, h3, D, h4, h5⟩ := h
  have ev : v2 = v := by rw [hv] at h1; injection h1 with h1; injection h1 with h1; simp at h1; exact h1.symm
  subst ev
  obtain ⟨v', w', hr, hrow, hg⟩ := app_ent2 W (B + 4) v2 el e hB h2 hn
  have hlow : ∀ k, k < B + 4 → w'.heap[k]? = W.heap[k]? := fun k hk =>
    (hg.block k (by simp; omega) (fun e => by have := (h2.lt _ e.symm).1; omega)).trans (Below.heap_alloc W _ k (by omega))
  have hsz : W.heap.size ≤ w'.heap.size := by have := hg.size; simp at this; omega
  have hne : v'.ownBlock ≠ some B := fun e => by have := (hrow.lt _ e).1; omega
  have hform : ∃ ad n cap, v' = .slice ad n cap := by
    rcases hrow.2 with ⟨hv, _⟩ | ⟨g', cap, cur, hv, _⟩
    · exact ⟨_, _, _, hv⟩
    · exact ⟨_, _, _, hv⟩
  have hkeep : KeepsOthers W w' := (KeepsOthers.alloc W _).trans (KeepsOthers.of_grownBy hg fun j o ej hj => by
    rcases h2.2 with ⟨hv, _⟩ | ⟨g', cap, cur, hv, _, hgc, _⟩
    · rw [hv] at ej; simp [Value.ownBlock] at ej
    · rw [hv] at ej
      simp [Value.ownBlock] at ej
      subst ej
      rw [blk_alloc hgc _] at hj
      cases hj; rfl)
  have hb7 := (hlow B (by omega)).trans h1
  have hrow2 : ERow (w'.setCell ⟨B, 0, none⟩ v') (B + 4) v' (el ++ [e]) := hrow.set_far v' hne
  have hm7 : w'.ownsMap Tryz.prog 25 unitElem (B + 1) n D := by
    have h0 := (h4.alloc (.cells (ecells e) 39)).kept hg (fun e => by have := (h2.lt _ e.symm).1; omega)
    exact h0
  refine ⟨v', w', hform, hr, hb7, hsz, ⟨⟨v', heap_setCell_same w' B 0 _ 28 _ hb7, hrow2⟩, (Below.heap_setCell w' ⟨B, 0, none⟩ v' (B + 2) (by show B + 2 ≠ B; omega)).trans ((hlow _ (by omega)).trans h3), D, hm7.setCell (by show B + 1 ≠ B; omega) v', h5⟩,
    (hkeep.trans (KeepsOthers.setCell _ _ _)).from _, ⟨by simp [World.setCell]; exact hsz, fun k hk hc => (Below.heap_setCell w' ⟨B, 0, none⟩ v' k (by show k ≠ B; omega)).trans (hlow k hk)⟩, fun b0 w0 hb0 hb => ?_⟩
  exact ((hb.alloc (by omega) _).grown hg (by simp; omega) (fun g e => by have := (h2.lt _ e).1; omega)).setCell (p := ⟨B, 0, none⟩) hb0 _
end Go.Proofs.YtkhmdofeonlnpaaGreatDoor

/- QUEUE: THE WALK OVER slices.Reverse AT ENTRIES. -/
namespace Go.Proofs.YtkhmdofeonlnpaaGreatDoor
open Go.RowKit Go.Shelf
set_option maxRecDepth 100000
set_option linter.unusedVariables false
set_option linter.unusedSimpArgs false

/-- the list of which the first k and the last k lie turned -/
structure RevAt (l cur : List E) (k : Nat) : Prop where
  len : cur.length = l.length
  at_ : ∀ m, m < l.length → cur[m]? = if m < k ∨ l.length - k ≤ m then l[l.length - 1 - m]? else l[m]?
theorem RevAt.zero (l : List E) : RevAt l l 0 := ⟨rfl, fun m hm => by rw [if_neg (by omega)]⟩
theorem RevAt.done {l cur : List E} {k : Nat} (h : RevAt l cur k) (hk : l.length ≤ 2 * k + 1) : cur = l.reverse := by
  apply List.ext_getElem?
  intro m
  by_cases hm : m < l.length
  · rw [h.at_ m hm, List.getElem?_reverse hm]
    split
    · rfl
    · rw [show l.length - 1 - m = m by omega]
  · rw [List.getElem?_eq_none (by rw [h.len]; omega), List.getElem?_eq_none (by rw [List.length_reverse]; omega)]
theorem RevAt.step {l cur : List E} {k : Nat} (h : RevAt l cur k) (hk : 2 * k + 1 < l.length) {a b : E} (ha : cur[k]? = some a) (hb : cur[l.length - 1 - k]? = some b) : RevAt l ((cur.set k b).set (l.length - 1 - k) a) (k + 1) := by
  refine ⟨by simp [h.len], fun m hm => ?_⟩
  have hl := h.len
  rw [h.at_ k (by omega), if_neg (by omega)] at ha
  rw [h.at_ _ (by omega), if_neg (by omega)] at hb
  by_cases e1 : m = l.length - 1 - k
  · subst e1
    rw [List.getElem?_set_self (by simp; omega), if_pos (by omega), show l.length - 1 - (l.length - 1 - k) = k by omega, ha]
  · rw [List.getElem?_set_ne (Ne.symm e1)]
    by_cases e2 : m = k
    · subst e2
      rw [List.getElem?_set_self (by omega), if_pos (by omega), hb]
    · rw [List.getElem?_set_ne (Ne.symm e2), h.at_ m hm]
      by_cases e3 : m < k ∨ l.length - k ≤ m
      · rw [if_pos e3, if_pos (by omega)]
      · rw [if_neg e3, if_neg (by omega)]
theorem ec_put : ∀ (es : List E) (i : Nat) (f : E), i < es.length → ((((es.flatMap ec).set (i * 3) (.int .u64 (f.seq : Int))).set (i * 3 + 1) (.string f.data)).set (i * 3 + 2) (.bool f.leased)) = (es.set i f).flatMap ec
  | [], i, f, h => by simp at h
  | x :: t, 0, f, _ => by simp [ec]
  | x :: t, i + 1, f, h => by
    have hl : (ec x).length = 3 := rfl
    rw [List.set_cons_succ, List.flatMap_cons, List.flatMap_cons, List.set_append_right _ _ (by rw [hl]; omega), List.set_append_right _ _ (by rw [hl]; omega), List.set_append_right _ _ (by rw [hl]; omega), hl, show (i + 1) * 3 - 3 = i * 3 by omega, show (i + 1) * 3 + 1 - 3 = i * 3 + 1 by omega, show (i + 1) * 3 + 2 - 3 = i * 3 + 2 by omega,
      ec_put t i f (by simpa using h)]
/-- an entry is stored among others -/
theorem ERow.put {w : World} {base g cap : Nat} {l : List E} (h : ERow w base (.slice (some ⟨g, 0, none⟩) l.length cap) l) (i : Nat) (f : E) (hi : i < l.length) :
    ERow (((w.setCell ⟨g, i * 3, none⟩ (.int .u64 (f.seq : Int))).setCell ⟨g, i * 3 + 1, none⟩ (.string f.data)).setCell ⟨g, i * 3 + 2, none⟩ (.bool f.leased)) base (.slice (some ⟨g, 0, none⟩) l.length cap) (l.set i f) := by
  have h1 := (World.ownsRow.stored h (i * 3) (.int .u64 (f.seq : Int))).1
  have h2 := (World.ownsRow.stored h1 (i * 3 + 1) (.string f.data)).1
  have h3 := (World.ownsRow.stored h2 (i * 3 + 2) (.bool f.leased)).1
  rw [ec_put l i f hi] at h3
  unfold ERow
  rw [List.length_set]
  exact h3
theorem grown3 (w : World) (g a b c : Nat) (x y z : Value) : w.grownBy (((w.setCell ⟨g, a, none⟩ x).setCell ⟨g, b, none⟩ y).setCell ⟨g, c, none⟩ z) (some g) :=
  kd_set (kd_set (kd_set (kd_refl g w) _) _) _

theorem ERow.drw {w : World} {base : Nat} {v : Value} {l : List E} (h : ERow w base v l) : ERow w.drew base v l := h
theorem grown_drw {w w' : World} {row : Option Nat} (h : w.grownBy w' row) : w.grownBy w'.drew row := ⟨h.os, h.tape, h.output, h.size, h.block⟩
set_option maxHeartbeats 4000000 in
theorem rev_any (w : World) (base : Nat) (v : Value) (l : List E) (h : ERow w base v l) (hn : l.length ≤ 1000000000) :
    Calls Tryz.prog 71 #[v] w fun e w' => e = .returned (.tuple #[]) ∧ ERow w' base v l.reverse ∧ ((v.ownBlock = none ∧ w' = w) ∨ w.grownBy w' v.ownBlock) := by
  obtain ⟨ad, cap, rfl, _, _, _⟩ := h.fls
  obtain ⟨N, hN⟩ : ∃ N, l.length = N := ⟨_, rfl⟩
  rw [hN] at h hn ⊢
  have HN := Lib.hid hN
  have H0 := Lib.hid (show RevAt l l 0 ∧ ERow w base (.slice ad N cap) l ∧ w.grownBy w (Value.slice ad N cap).ownBlock from ⟨RevAt.zero l, h, World.grownBy.refl w _⟩)
  clear hN h
  go_enter Tryz.func71, Tryz.ntmps71
  go_wp2
  go_loopw [2, 3] (fun i j wr => ∃ (k : Nat) (cur : List E), i = .int .i64 (k : Int) ∧ j = .int .i64 ((N : Int) - 1 - (k : Int)) ∧ k ≤ N ∧ Go.RowKit.Hid (RevAt l cur k ∧ ERow wr base (.slice ad N cap) cur ∧ w.grownBy wr (Value.slice ad N cap).ownBlock)) (fun i _ _ => N - (intOf i).toNat)
  case atStart => exact ⟨0, l, rfl, by simp, Nat.zero_le _, H0⟩
  case round =>
    obtain ⟨k, cur, rfl, rfl, hk, HR⟩ := hrel
    by_cases hlt : (k : Int) < (N : Int) - 1 - (k : Int)
    · obtain ⟨hr, hrow, hg⟩ := HR.out
      have hcl : cur.length = N := hr.len.trans HN.out
      have hne : cur ≠ [] := by rintro rfl; simp at hcl; omega
      obtain ⟨g, cap', hv, hbg, hgl, hc, hat, hfz, hset⟩ := hrow.blk hne
      injection hv with e1 e2 e3
      subst e1 e3
      obtain ⟨J, hJ⟩ : ∃ J : Nat, (N : Int) - 1 - (k : Int) = (J : Int) := ⟨N - 1 - k, by omega⟩
      have hJ2 : J = l.length - 1 - k := by have := HN.out; omega
      rw [hJ] at hlt ⊢
      obtain ⟨a, ha⟩ : ∃ a, cur[k]? = some a := ⟨cur[k]'(by omega), by simp⟩
      obtain ⟨b, hb⟩ : ∃ b, cur[J]? = some b := ⟨cur[J]'(by omega), by simp⟩
      obtain ⟨a0, a1, a2⟩ := hat k a ha
      obtain ⟨b0, b1, b2⟩ := hat J b hb
      simp only [Nat.zero_add] at a0 a1 a2 b0 b1 b2
      have hk1 : (k : Int) < (N : Int) := by omega
      have hj1 : (J : Int) < (N : Int) := by omega
      have f0 := hfz (k * 3)
      have f1 := hfz (k * 3 + 1)
      have f2 := hfz (k * 3 + 2)
      have f3 := hfz (J * 3)
      have f4 := hfz (J * 3 + 1)
      have f5 := hfz (J * 3 + 2)
      have hstep := hr.step (by have := HN.out; omega) ha (by rw [← hJ2]; exact hb)
      rw [← hJ2] at hstep
      rw [← hcl] at hrow
      have h1 := hrow.put k b (by omega)
      have h2 := ERow.put (by rw [List.length_set]; exact h1) J a (by rw [List.length_set]; omega)
      rw [List.length_set, hcl] at h2
      have hg2 := (hg.trans (grown3 wr g (k * 3) (k * 3 + 1) (k * 3 + 2) (.int .u64 (b.seq : Int)) (.string b.data) (.bool b.leased))).trans (grown3 _ g (J * 3) (J * 3 + 1) (J * 3 + 2) (.int .u64 (a.seq : Int)) (.string a.data) (.bool a.leased))
      have HF := Lib.hid (And.intro hstep (And.intro h2 hg2))
      have HJ := Lib.hid hJ
      clear hr hrow hg hcl hne hbg hc hat hfz hset hJ hJ2 ha hb hstep h1 h2 hg2 HR
      go_upto_region 3 with (fail)
      go_region
      obtain ⟨X, hX⟩ : ∃ X, X = ((((((wr.setCell ⟨g, k * 3, none⟩ (.int .u64 (b.seq : Int))).setCell ⟨g, k * 3 + 1, none⟩ (.string b.data)).setCell ⟨g, k * 3 + 2, none⟩ (.bool b.leased)).setCell ⟨g, J * 3, none⟩ (.int .u64 (a.seq : Int))).setCell ⟨g, J * 3 + 1, none⟩ (.string a.data)).setCell ⟨g, J * 3 + 2, none⟩ (.bool a.leased)).drew := ⟨_, rfl⟩
      rw [← hX]
      have HX := Lib.hid (show RevAt l ((cur.set k b).set J a) (k + 1) ∧ ERow X base (.slice (some ⟨g, 0, none⟩) N cap) ((cur.set k b).set J a) ∧ w.grownBy X (some g) from by
        rw [hX]
        exact ⟨HF.out.1, ERow.drw HF.out.2.1, grown_drw HF.out.2.2⟩)
      clear hX HF a0 a1 a2 b0 b1 b2 f0 f1 f2 f3 f4 f5
      go_wp2
      go_roundw
      case rel =>
        refine ⟨k + 1, (cur.set k b).set J a, by go_num, ?_, by omega, HX⟩
        have := HJ.out
        rw [show (N : Int) - 1 - ((k + 1 : Nat) : Int) = (J : Int) - 1 by omega]
      case measure =>
        have := HJ.out
        simp [intOf]
        omega
    · obtain ⟨hr, hrow, hg⟩ := HR.out
      have hd := hr.done (by have := HN.out; omega)
      subst hd
      have HF := Lib.hid (And.intro hrow hg)
      clear hr hrow hg HR
      go_wp2
      go_end0
      exact ⟨rfl, HF.out.1, .inr HF.out.2⟩
end Go.Proofs.YtkhmdofeonlnpaaGreatDoor

/- QUEUE: THE WALK OVER entries. -/
namespace Go.Proofs.YtkhmdofeonlnpaaGreatDoor
open Go.RowKit Go.Shelf
attribute [local go_sem] Oper.semAt_some
set_option maxRecDepth 100000
set_option linter.unusedVariables false
set_option linter.unusedSimpArgs false

theorem en_end {B : Nat} {Wl w W W' : World} {pre : List (Nat × Rec)} {x : Nat × Rec} {a : Act} (hk : KeepsFrom Wl.heap.size W W') (h3 : Keep3 Wl.heap.size B W W') (hE : EM B (goneL (x.2 :: sfx pre)) (entM (x.2 :: sfx pre)).reverse (pre.length + 1) W') (hB : Below B w W') (hn : Wl.heap.size ≤ W'.heap.size) :
    ownPostG Wl.heap.size (Keep3 Wl.heap.size B) (fun pre W => EM B (goneL (sfx pre)) (entM (sfx pre)).reverse pre.length W ∧ Below B w W ∧ Wl.heap.size ≤ W.heap.size) (fun _ _ _ => False) (pre ++ [x]) W .normal a W' := by
  refine ⟨hk, h3, ?_, hB, hn⟩
  rw [sfx_snoc, List.length_append]
  exact hE
theorem putOf_of_ack {d : ByteArray} {k : Nat} (h : ackOf d = some k) : putOf d = none := by
  unfold ackOf at h
  split at h
  · rename_i hc
    unfold putOf
    rw [if_neg (by rw [hc.1]; simp)]
  · cases h

set_option maxHeartbeats 8000000 in
theorem entries_in (w : World) (ad : Option Addr) (n cap : Nat) (rs : List Rec) (hn : n = rs.length) (hA : RAt w w.heap.size ad rs) (hlen : rs.length ≤ 1000000000) :
    CallsIn Fence.wide 5 Tryz.prog 27 #[.slice ad n cap] w fun e w' => ∃ v, e = .returned v ∧ ERow w' w.heap.size v (entM rs) ∧ Below w.heap.size w w' := by
  refine callsIn_of_wp_marks Tryz.func27 rfl trivial ?_ rfl
  simp only [Tryz.ntmps27, List.size_toArray, List.length_cons, List.length_nil, Nat.reduceAdd, Nat.reduceSub, Array.replicate_succ, Array.replicate_zero, List.push_toArray, List.append_toArray, List.nil_append, List.cons_append]
  have Hn := Lib.hid hn
  clear hn
  have hmm := @run_makeMap Tryz.prog
  gi_upto_region 3 with (fail)
  obtain ⟨W0, hW0⟩ : ∃ W, W = ((w.alloc (Obj.cells #[Value.slice none 0 0] 28)).alloc (Obj.map #[] 0)).alloc (Obj.cells #[Value.map (some (w.heap.size + 1))] 118) := ⟨_, rfl⟩
  rw [← hW0]
  have hs0 : W0.heap.size = w.heap.size + 1 + 1 + 1 := by rw [hW0]; simp
  have hb0 : Below w.heap.size w W0 := by rw [hW0]; exact (((Below.refl _ w).alloc (Nat.le_refl _) _).alloc (by simp) _).alloc (by simp; omega) _
  have hx0 : W0.heap[w.heap.size]? = some (.cells #[.slice none 0 0] 28 (0, 0)) := by rw [hW0]; exact blk_alloc (blk_alloc (blk_new w _) _) _
  have hx2 : W0.heap[w.heap.size + 2]? = some (.cells #[.map (some (w.heap.size + 1))] 118 (0, 0)) := by rw [hW0]; exact blk_at (by simp)
  have hm0 : W0.ownsMap Tryz.prog 25 (unitElem (H := Unit)) (w.heap.size + 1) 0 (.map []) := by
    rw [hW0]
    have h := World.ownsMap_made (H := Unit) (w.alloc (Obj.cells #[Value.slice none 0 0] 28)) Tryz.prog 25 unitElem
    rw [World.size_alloc] at h
    exact h.alloc _
  clear hW0
  gi_wp2_with fail
  refine ⟨trivial, ?_⟩
  refine (callsIn_wide.2 (rbackward_any W0 ad n cap)).mono ?_
  rintro e w6 ⟨rfl, rfl⟩
  gi_wp2
  obtain ⟨Wl, hWl⟩ : ∃ W, W = W0.alloc (.cells #[.slice ad n cap] 65) := ⟨_, rfl⟩
  have hbl : Below W0.heap.size W0 Wl := by rw [hWl]; exact (Below.refl _ W0).alloc (Nat.le_refl _) _
  have hbs : Wl.heap[W0.heap.size]? = some (Obj.cells #[.slice ad n cap] 65 (0, 0)) := by rw [hWl]; exact blk_new W0 _
  have hszl : Wl.heap.size = w.heap.size + 4 := by rw [hWl, World.size_alloc, hs0]
  rw [← hWl]
  clear hWl
  rw [hs0] at hbs
  have hB0 : Below w.heap.size w Wl := hb0.trans (hbl.mono (by omega))
  have hEM0 : EM w.heap.size (goneL (sfx [])) (entM (sfx [])).reverse 0 Wl := EM.below ⟨⟨_, hx0, World.ownsRow_nil _ _ _ _⟩, hx2, .map [], hm0, fun s => by simp [Maps.has, goneL, sfx]⟩ hbl
  obtain ⟨g, off, hg⟩ : ∃ g off, rs ≠ [] → ad = some ⟨g, off, none⟩ ∧ g < w.heap.size ∧ RWAt w g off rs := by
    by_cases hne : rs = []
    · exact ⟨0, 0, fun h => absurd hne h⟩
    · obtain ⟨g, off, a⟩ := hA hne
      exact ⟨g, off, fun _ => a⟩
  clear hx0 hx2 hm0 hb0 hbl
  refine wpIn_rangeFunc_ownH (F := Fence.wide) (n := 5) rfl (by omega) (gf := 118) (lb := #[.pointer (some ⟨w.heap.size + 1 + 1 + 1, 0, none⟩)]) rfl trivial (enters_of Tryz.func118 (by kernel_rfl) rfl)
      (rback_stop (w.heap.size + 1 + 1 + 1) Wl.heap.size w.heap.size g off cap rs (by omega) (by omega) (fun hne => by have := (hg hne).2.1; omega) hlen Wl (Nat.le_refl _) ad (fun hne => (hg hne).1) (by rw [← Hn.out]; exact cell_of_one hbs) (fun hne => ((hg hne).2.2).below (by have := (hg hne).2.1; omega) hB0)) (fun h k => h.trans k) (fun W l o o' hl h hc hw => Keep3.put (Nat.le_refl _) W l o o' hl h hc hw) (Below.refl _ _) (by intro x; rfl)
      (fun pre W => EM w.heap.size (goneL (sfx pre)) (entM (sfx pre)).reverse pre.length W ∧ Below w.heap.size w W ∧ Wl.heap.size ≤ W.heap.size)
      (fun _ _ _ => False)
      (OwnFrom.and (fun pre W W' row hs hg hr => hs.kept hg (fun r e => by have := hr r e; rw [hszl] at this; exact this)) (OwnFrom.and (ownFrom_below (Nat.le_refl _) (by omega)) (fun s W W' row hs hg _ => Nat.le_trans hs hg.size)))
      (fun _ _ _ _ _ hs _ _ => hs)
      ⟨hEM0, hB0, Nat.le_refl _⟩
      (fun x a' W => ∃ Bx, w.heap.size + 4 ≤ Bx ∧ W.heap[Bx]? = some (Obj.cells x.2.cells 123 (0, 0)) ∧ a' = ⟨#[.slice ad n cap, undef, .slice none 0 0, .pointer (some ⟨w.heap.size, 0, none⟩), .pointer (some ⟨w.heap.size + 1 + 1, 0, none⟩), undef, .pointer (some ⟨Bx, 0, none⟩), undef, undef, undef, undef, undef, undef, .map (some (w.heap.size + 1)), .slice ad n cap, .func (.func 118) #[] #[.pointer (some ⟨w.heap.size + 1 + 1 + 1, 0, none⟩)], .int .i64 (x.1 : Int), .agg x.2.cells, undef, undef, undef, undef, undef, undef, undef, undef, undef, undef, undef, undef, undef, undef, undef, undef, undef, undef, undef, undef, undef, undef, undef, undef, undef, undef, undef, undef, undef, undef, undef, undef, undef, undef, undef, undef, undef, undef], []⟩)
      (fun x a' _ X Y row hs hg hr => by
        obtain ⟨Bx, h1, h2, h5⟩ := hs
        have hr' : ∀ r, row = some r → ∃ o : Obj, X.heap[r]? = some o ∧ o.isCells = false := fun r e => (hr r e).2
        exact ⟨Bx, h1, cells_kept h2 hg hr', h5⟩)
      ?assign ?body ?done ?stop
  case assign =>
    rintro l pre x W K ⟨hI, hB, hn0⟩ hK
    gi_wp2
    refine hK _ _ ((KeepsOthers.alloc _ _).from _) (Keep3.of_below ((Below.refl _ W).alloc (Nat.le_refl _) _) hn0) ⟨hI.below ((Below.refl _ W).alloc (Nat.le_refl _) _), hB.alloc hB.size _, by rw [World.size_alloc]; omega⟩ ⟨W.heap.size, by omega, blk_new W _, rfl⟩
  case body =>
    rintro l pre x a' W hl ⟨r, hr⟩ ⟨hI, hB, hn0⟩ ⟨Bx, hBx, hx, rfl⟩ hlt
    have hx' := box2' hx
    have hlx := (Array.getElem?_eq_some_iff.1 hx).1
    obtain ⟨q0, q1⟩ := hx'
    have hm1 := cell_of_one hI.m
    have hlm := (Array.getElem?_eq_some_iff.1 hI.m).1
    gi_wp2_with fail
    refine ⟨trivial, ?_⟩
    refine (callsIn_wide.2 (acked_any W x.2.data x.2.h2)).mono ?_
    rintro e w9 ⟨rfl, rfl⟩
    obtain ⟨D, hD, hhas⟩ := hI.g
    have hgl : goneL (x.2 :: sfx pre) = (match ackOf x.2.data with | some k => k :: goneL (sfx pre) | none => goneL (sfx pre)) := by
      unfold goneL
      rw [List.filterMap_cons]
      cases ackOf x.2.data <;> rfl
    cases ha : ackOf x.2.data with
    | none =>
      rw [ha] at hgl
      simp only [ackV]
      simp only at hgl
      obtain ⟨X, hXe⟩ : ∃ X, X = W := ⟨_, rfl⟩
      have hEX : EM w.heap.size (goneL (x.2 :: sfx pre)) (entM (sfx pre)).reverse (pre.length + 1) X := by rw [hXe, hgl]; exact hI.more
      have hBX : Below w.heap.size w X := by rw [hXe]; exact hB
      have hkX : KeepsFrom Wl.heap.size W X := by rw [hXe]; exact KeepsFrom.refl _ _
      have h3X : Keep3 Wl.heap.size w.heap.size W X := by rw [hXe]; exact Keep3.refl _
      have hnX : Wl.heap.size ≤ X.heap.size := by rw [hXe]; exact hn0
      have hXx : X.heap[Bx]? = some (Obj.cells x.2.cells 123 (0, 0)) := by rw [hXe]; exact hx
      clear hD hhas D hI q0 q1 hm1 hlm hlx hx ha
      rw [← hXe]
      clear hXe
      gi_upto_region 8 with (fail)
      have hXb := box2' hXx
      have hlX := (Array.getElem?_eq_some_iff.1 hXx).1
      obtain ⟨hX0, hX1⟩ := hXb
      have hmX := cell_of_one hEX.m
      have hlmX := (Array.getElem?_eq_some_iff.1 hEX.m).1
      gi_wp2_with fail
      refine ⟨trivial, ?_⟩
      refine (callsIn_wide.2 (cutP_any X x.2.data x.2.h2)).mono ?_
      rintro e w9 ⟨rfl, rfl⟩
      obtain ⟨D3, hD3, hh3⟩ := hEX.g
      have hhas := hh3 x.2.seq
      have hkey := Go.Maps.keyOf_int_mk (P := Tryz.prog) Tryz.underlying25 (a := (x.2.seq : Int)) (WalkArith.wf_u64 (by have := x.2.h1; omega))
      have hbU : Below X.heap.size X (X.alloc (.cells #[] 126)) := (Below.refl _ X).alloc (Nat.le_refl _) _
      have hEU := hEX.below hbU
      have hkU : KeepsFrom Wl.heap.size W (X.alloc (.cells #[] 126)) := hkX.trans ((KeepsOthers.alloc X _).from _)
      have h3U : Keep3 Wl.heap.size w.heap.size W (X.alloc (.cells #[] 126)) := h3X.trans (Keep3.of_below hbU hnX)
      have hBU : Below w.heap.size w (X.alloc (.cells #[] 126)) := hBX.alloc hBX.size _
      have hnU : Wl.heap.size ≤ (X.alloc (.cells #[] 126)).heap.size := by rw [World.size_alloc]; omega
      cases hp : putOf x.2.data with
      | none =>
        simp only [putV]
        have hst : (entM (x.2 :: sfx pre)).reverse = (entM (sfx pre)).reverse := by
          rw [entM]
          unfold ent1
          rw [hp]
          simp
        have Hst := Lib.hid hst
        have HE := Lib.hid hEU
        have HF := Lib.hid (And.intro hkU (And.intro h3U (And.intro hBU hnU)))
        clear hst hp hh3 hhas hEU hkU h3U hBU hnU hbU
        gi_wp2_with (gi_at_lookup; refine wpListIn_lookup_own_unit _ rfl _ _ 118 rfl 25 126 Tryz.law25 Tryz.underlying118 (Tryz.zero126 _) (w.heap.size + 1) _ D3 rfl hD3 _ _ rfl hkey ?_)
        have hfin := HE.out
        rw [← Hst.out] at hfin
        exact en_end HF.out.1 HF.out.2.1 hfin HF.out.2.2.1 HF.out.2.2.2
      | some d =>
        simp only [putV]
        by_cases hgo : x.2.seq ∈ goneL (sfx pre)
        · have hst : (entM (x.2 :: sfx pre)).reverse = (entM (sfx pre)).reverse := by
            rw [entM, if_pos hgo]
            simp
          have hyes : Maps.has D3 (.int .u64 (x.2.seq : Int)) = true := by rw [hhas, hgl]; simpa using hgo
          have Hst := Lib.hid hst
          have HE := Lib.hid hEU
          have HF := Lib.hid (And.intro hkU (And.intro h3U (And.intro hBU hnU)))
          clear hst hp hh3 hhas hEU hkU h3U hBU hnU hbU hgo
          gi_wp2_with (gi_at_lookup; refine wpListIn_lookup_own_unit _ rfl _ _ 118 rfl 25 126 Tryz.law25 Tryz.underlying118 (Tryz.zero126 _) (w.heap.size + 1) _ D3 rfl hD3 _ _ rfl hkey ?_)
          have hfin := HE.out
          rw [← Hst.out] at hfin
          exact en_end HF.out.1 HF.out.2.1 hfin HF.out.2.2.1 HF.out.2.2.2
        · have hst : (entM (x.2 :: sfx pre)).reverse = (entM (sfx pre)).reverse ++ [⟨x.2.seq, d, false⟩] := by
            rw [entM, if_neg hgo]
            unfold ent1
            rw [hp]
            simp
          have hno : Maps.has D3 (.int .u64 (x.2.seq : Int)) = false := by rw [hhas, hgl]; simpa using hgo
          obtain ⟨U, hU⟩ : ∃ U, U = X.alloc (.cells #[] 126) := ⟨_, rfl⟩
          rw [← hU] at hbU hEU hkU h3U hBU hnU
          have HU := Lib.hid (And.intro hbU (And.intro hEU (And.intro hkU (And.intro h3U (And.intro hBU hnU)))))
          have Hst := Lib.hid hst
          have HXx := Lib.hid hXx
          clear hst hp hh3 hhas hEU hkU h3U hBU hnU hgo hbU
          gi_upto_region 11 with (gi_at_lookup; refine wpListIn_lookup_own_unit _ rfl _ _ 118 rfl 25 126 Tryz.law25 Tryz.underlying118 (Tryz.zero126 _) (w.heap.size + 1) _ D3 rfl hD3 _ _ rfl hkey ?_)
          rw [← hU]
          clear hU hX0 hX1 hmX hlmX hno
          obtain ⟨hbU, hEU, hkU, h3U, hBU, hnU⟩ := HU.out
          obtain ⟨v, hv⟩ := hEU.v
          obtain ⟨v7, w7, ⟨ad7, n7, cap7, rfl⟩, hrun, hb7, hs7, hE7, hkf7, hk37, hB7⟩ := hEU.app (by omega) (by
            have h1 := entM_len (sfx pre)
            rw [List.length_reverse]
            have h2 : (sfx pre).length = pre.length := by simp [sfx]
            omega) ⟨x.2.seq, d, false⟩ v hv.1
          obtain ⟨adv, nv, capv, rfl⟩ : ∃ ad n cap, v = .slice ad n cap := by
            rcases hv.2.2 with ⟨hv, _⟩ | ⟨g', cap, cur, hv, _⟩
            · exact ⟨_, _, _, hv⟩
            · exact ⟨_, _, _, hv⟩
          have hvU := cell_of_one hv.1
          have hlU := (Array.getElem?_eq_some_iff.1 hv.1).1
          have hXU := (hbU.block _ hlX).trans HXx.out
          obtain ⟨u0, u1⟩ := box2' hXU
          have hlXU := (Array.getElem?_eq_some_iff.1 hXU).1
          have c7 := cell_of_one hb7
          have f7 := frozen_of_row w7 w.heap.size 0 _ 28 hb7
          have hl7 := (Array.getElem?_eq_some_iff.1 hb7).1
          rw [← hszl] at hkf7 hk37
          have HE := Lib.hid hE7
          have HF := Lib.hid (And.intro (hkU.trans hkf7) (And.intro (h3U.trans hk37) (And.intro (hB7 _ _ (Nat.le_refl _) hBU) (show Wl.heap.size ≤ (w7.setCell ⟨w.heap.size, 0, none⟩ (.slice ad7 n7 cap7)).heap.size from by simp only [World.setCell, Array.size_modify]; omega))))
          clear hEU hkU h3U hBU hnU hE7 hkf7 hk37 hB7 hv hbU hXU hs7 hb7 hlX hXx
          gi_wp2_with (gi_at_builtin; refine wpListIn_app rfl _ _ rfl rfl rfl hrun ?_)
          have hfin := HE.out
          rw [← Hst.out] at hfin
          exact en_end HF.out.1 HF.out.2.1 hfin HF.out.2.2.1 HF.out.2.2.2
    | some k =>
      rw [ha] at hgl
      simp only [ackV]
      simp only at hgl
      have hk := ackOf_lt ha
      have hkey1 := Go.Maps.keyOf_int_mk (P := Tryz.prog) Tryz.underlying25 (a := (k : Int)) (WalkArith.wf_u64 (by omega))
      gi_upto_region 8 with (gi_at_mapUpdate; refine wpListIn_mapUpdate_own _ rfl _ _ _ 118 rfl 25 126 Tryz.law25 Tryz.underlying118 _ (w.heap.size + 1) _ D rfl hD (by unfold maxLen; omega) _ _ _ rfl rfl hkey1 (.agg []) [] unitElem_mk ?_; intro X hDX hgX)
      have hEX : EM w.heap.size (goneL (x.2 :: sfx pre)) (entM (sfx pre)).reverse (pre.length + 1) X := by rw [hgl]; exact hI.turn hgX (Gone.put (W := W) D hhas hD.isMap hk hDX)
      have hBX : Below w.heap.size w X := hB.grown hgX hB.size (fun k e => by injection e with e; omega)
      have hkX : KeepsFrom Wl.heap.size W X := KeepsFrom.of_grownBy hgX (fun j e => by injection e with e; omega)
      have h3X : Keep3 Wl.heap.size w.heap.size W X := ⟨hgX.size, fun k hk hc => hgX.block k (by omega) (by intro e; injection e with e; omega)⟩
      have hnX : Wl.heap.size ≤ X.heap.size := by have := hgX.size; omega
      have hXx : X.heap[Bx]? = some (Obj.cells x.2.cells 123 (0, 0)) := (hgX.block _ hlx (by intro e; injection e with e; omega)).trans hx
      have hpk : putOf x.2.data = none := putOf_of_ack ha
      clear hD hhas D hI q0 q1 hm1 hlm hlx hx hDX hgX ha hkey1
      have hXb := box2' hXx
      have hlX := (Array.getElem?_eq_some_iff.1 hXx).1
      obtain ⟨hX0, hX1⟩ := hXb
      have hmX := cell_of_one hEX.m
      have hlmX := (Array.getElem?_eq_some_iff.1 hEX.m).1
      gi_wp2_with fail
      refine ⟨trivial, ?_⟩
      refine (callsIn_wide.2 (cutP_any X x.2.data x.2.h2)).mono ?_
      rintro e w9 ⟨rfl, rfl⟩
      obtain ⟨D3, hD3, hh3⟩ := hEX.g
      have hhas := hh3 x.2.seq
      have hkey := Go.Maps.keyOf_int_mk (P := Tryz.prog) Tryz.underlying25 (a := (x.2.seq : Int)) (WalkArith.wf_u64 (by have := x.2.h1; omega))
      have hbU : Below X.heap.size X (X.alloc (.cells #[] 126)) := (Below.refl _ X).alloc (Nat.le_refl _) _
      have hEU := hEX.below hbU
      have hkU : KeepsFrom Wl.heap.size W (X.alloc (.cells #[] 126)) := hkX.trans ((KeepsOthers.alloc X _).from _)
      have h3U : Keep3 Wl.heap.size w.heap.size W (X.alloc (.cells #[] 126)) := h3X.trans (Keep3.of_below hbU hnX)
      have hBU : Below w.heap.size w (X.alloc (.cells #[] 126)) := hBX.alloc hBX.size _
      have hnU : Wl.heap.size ≤ (X.alloc (.cells #[] 126)).heap.size := by rw [World.size_alloc]; omega
      cases hp : putOf x.2.data with
      | none =>
        simp only [putV]
        have hst : (entM (x.2 :: sfx pre)).reverse = (entM (sfx pre)).reverse := by
          rw [entM]
          unfold ent1
          rw [hp]
          simp
        have Hst := Lib.hid hst
        have HE := Lib.hid hEU
        have HF := Lib.hid (And.intro hkU (And.intro h3U (And.intro hBU hnU)))
        clear hst hp hh3 hhas hEU hkU h3U hBU hnU hbU
        gi_wp2_with (gi_at_lookup; refine wpListIn_lookup_own_unit _ rfl _ _ 118 rfl 25 126 Tryz.law25 Tryz.underlying118 (Tryz.zero126 _) (w.heap.size + 1) _ D3 rfl hD3 _ _ rfl hkey ?_)
        have hfin := HE.out
        rw [← Hst.out] at hfin
        exact en_end HF.out.1 HF.out.2.1 hfin HF.out.2.2.1 HF.out.2.2.2
      | some d =>
        rw [hpk] at hp; cases hp
  case done =>
    rintro D xs W hDl hS ⟨hI, hB, hn0⟩ hDef
    have hsx : sfx xs = rs := by unfold sfx; rw [hS, List.reverse_reverse]
    rw [hsx] at hI
    obtain ⟨v, hv, hrow⟩ := hI.v
    obtain ⟨adv, capv, hvf, _, _, _⟩ := hrow.fls
    have hrev := rev_any W (w.heap.size + 4) v (entM rs).reverse hrow (by have := entM_len rs; rw [List.length_reverse]; omega)
    rw [List.reverse_reverse] at hrev
    subst hvf
    have hown := hrow.lt
    have hcl : ∀ (j : Nat) (o : Obj), (Value.slice adv (entM rs).reverse.length capv).ownBlock = some j → W.heap[j]? = some o → o.isCells = true := fun j o ej hj => by
      rcases hrow.2 with ⟨hv, _⟩ | ⟨g', cap, cur, hv, _, hgc, _⟩
      · rw [hv] at ej; simp [Value.ownBlock] at ej
      · rw [hv] at ej
        simp [Value.ownBlock] at ej
        subst ej
        rw [hgc] at hj
        cases hj; rfl
    obtain ⟨M, hM⟩ : ∃ M, (entM rs).reverse.length = M := ⟨_, rfl⟩
    rw [hM] at hv hrev hown hcl
    have hc := cell_of_one hv
    have hlv := (Array.getElem?_eq_some_iff.1 hv).1
    have Hrev := Lib.hid hrev
    have Hown := Lib.hid hown
    have Hcl := Lib.hid hcl
    have HB := Lib.hid hB
    have Hdef := Lib.hid hDef
    have Hv := Lib.hid hv
    have HDl := Lib.hid hDl
    have Hn0 := Lib.hid hn0
    clear hrev hown hcl hB hDef hv hDl hn0 hS hI hrow hM hsx
    gi_wp2_with fail
    refine ⟨trivial, ?_⟩
    refine (callsIn_wide.2 Hrev.out).mono ?_
    rintro e w2 ⟨rfl, hrow2, hg2⟩
    have hg3 : W.grownBy w2 (Value.slice adv M capv).ownBlock := by
      rcases hg2 with ⟨e1, e2⟩ | h
      · rw [e2]; exact World.grownBy.refl W _
      · exact h
    have hv2 : w2.heap[w.heap.size]? = some (.cells #[.slice adv M capv] 28 (0, 0)) := (hg3.block _ hlv (fun e => by have := (Hown.out _ e.symm).1; omega)).trans Hv.out
    have hD2 : w2.heap[D]? = some (.deferred (some [])) := (KeepsOthers.of_grownBy hg3 Hcl.out).same D _ Hdef.out rfl
    have hb2 : Below w.heap.size w w2 := HB.out.grown hg3 HB.out.size (fun k e => by have := (Hown.out k e).1; omega)
    have hgD := grownBy_putObj' w2 D (.deferred none)
    have hrow3 : ERow (w2.putObj D (.deferred none)) (w.heap.size + 4) (.slice adv M capv) (entM rs) := hrow2.kept hgD (by
      cases hq : (Value.slice adv M capv).ownBlock with
      | none => exact .inl rfl
      | some k =>
        refine .inr fun e => ?_
        injection e with e
        subst e
        rcases hrow2.2 with ⟨hv, _⟩ | ⟨g', cap, cur, hv, _, hgc, _⟩
        · rw [hv] at hq; simp [Value.ownBlock] at hq
        · rw [hv] at hq
          simp [Value.ownBlock] at hq
          subst hq
          rw [hgc] at hD2
          cases hD2)
    have hb3 : Below w.heap.size w (w2.putObj D (.deferred none)) := hb2.grown hgD hb2.size (fun k e => by cases e; have := HDl.out; omega)
    have HF := Lib.hid (And.intro hrow3 hb3)
    have HD2 := Lib.hid hD2
    have c2 := cell_of_one hv2
    have hl2 := (Array.getElem?_eq_some_iff.1 hv2).1
    clear hrow2 hg2 hg3 hv2 hD2 hb2 hgD hrow3 hb3
    gi_wp2
    refine ⟨by simp, .inl ⟨_, _, rfl, run_takeDeferred HD2.out, ?_⟩⟩
    exact ⟨.slice adv M capv, by simp [results, Tryz.results27, go_sem], .slice adv M capv, rfl, ownsRow_base HF.out.1 (by omega), HF.out.2⟩
  case stop =>
    rintro D c pre W _ _ h _
    exact h.elim
theorem entries_any (w : World) (ad : Option Addr) (n cap : Nat) (rs : List Rec) (hn : n = rs.length) (hA : RAt w w.heap.size ad rs) (hlen : rs.length ≤ 1000000000) :
    Calls Tryz.prog 27 #[.slice ad n cap] w fun e w' => ∃ v, e = .returned v ∧ ERow w' w.heap.size v (entM rs) ∧ Below w.heap.size w w' :=
  callsIn_wide.1 (entries_in w ad n cap rs hn hA hlen)
end Go.Proofs.YtkhmdofeonlnpaaGreatDoor

/- QUEUE: THE WALKS OVER the document's SameEntries, Same; what an opened log is. -/
namespace Go.Proofs.YtkhmdofeonlnpaaGreatDoor
open Go.RowKit
set_option maxRecDepth 100000
set_option linter.unusedVariables false
set_option linter.unusedSimpArgs false


/-- what the numbers of an opened log are -/
theorem openM_num {d : D} {size : Int} (hu : Num d.fuse) (hf : Num d.fault) (hs : Num size) : Num (openM d size).1.size ∧ (0 ≤ (openM d size).1.fr ∧ (openM d size).1.fr ≤ 18446744073709551615) ∧ (0 ≤ (openM d size).1.nx ∧ (openM d size).1.nx ≤ 18446744073709551615) := by
  unfold openM
  split
  · exact ⟨by unfold Num; decide, by decide, by decide⟩
  rename_i hR
  replace hR : Right d.files := Classical.byContradiction hR
  split
  · exact ⟨by unfold Num; decide, by decide, by decide⟩
  split
  · exact ⟨by unfold Num; decide, by decide, by decide⟩
  have hk := doS_keep (mendM d.files) ⟨d, size, 0, 0, false⟩ hR hu hf
  split
  · have h1 := rdF_len d.files
    have h2 := rdF_bd d.files
    refine ⟨by show Num (doS ⟨d, size, 0, 0, false⟩ (mendM d.files)).1.size; rw [hk.2.1]; exact hs, ?_, ?_⟩
    · simp only; omega
    · simp only; omega
  · exact ⟨by rw [hk.2.1]; exact hs, by rw [hk.2.2.1]; exact ⟨Int.le_refl 0, by show (0 : Int) ≤ 18446744073709551615; decide⟩, by rw [hk.2.2.2]; exact ⟨Int.le_refl 0, by show (0 : Int) ≤ 18446744073709551615; decide⟩⟩
theorem openM_lin {w : World} {ad : Option Addr} {n cap : Nat} {d : D} {size : Int} (hu : Num d.fuse) (hf : Num d.fault) (hs : Num size) (h : DIn w ad n cap (openM d size).1.d.fuse (openM d size).1.d.fault (openM d size).1.d.files) : LIn w ad n cap (openM d size).1 := by
  obtain ⟨⟨h1, h2⟩, ⟨h3, h4⟩, h5, h6⟩ := openM_num hu hf hs
  exact ⟨h, h1, h2, h3, h4, h5, h6⟩
theorem entM_fit (rs : List Rec) : ∀ e ∈ entM rs, EFit e := fun e he => by
  obtain ⟨r, _, h1, _, h2⟩ := entM_mem he
  refine ⟨by have := r.h1; omega, ?_⟩
  have h3 := r.h2
  unfold putOf at h2
  split at h2
  · injection h2 with h2
    rw [← h2, tl_size]
    omega
  · cases h2
theorem openM_len {d : D} {size : Int} : (openM d size).2.1.length ≤ 16777216 := by
  by_cases h : (openM d size).2.2 = 0
  · exact (opened (d := d) (size := size) (l := (openM d size).1) (rs := (openM d size).2.1) (by rw [← h])).len
  · rw [openM_err (d := d) (size := size) (l := (openM d size).1) (rs := (openM d size).2.1) (c := (openM d size).2.2) rfl h]
    simp
end Go.Proofs.YtkhmdofeonlnpaaGreatDoor

/- QUEUE: THE WALK OVER Open. -/
namespace Go.Proofs.YtkhmdofeonlnpaaGreatDoor
open Go.RowKit
set_option maxRecDepth 100000
set_option linter.unusedVariables false
set_option linter.unusedSimpArgs false

/-- what Open answers -/
def OpQ (w : World) (a : Q × Int) (e : Ending) (w' : World) : Prop := Below w.heap.size w w' ∧ ∃ ad n cap ad2 n2 cap2, e = .returned (.tuple #[.agg (a.1.cells (.slice ad n cap) (.slice ad2 n2 cap2)), .int .i64 a.2]) ∧ QIn w' ad n cap ad2 n2 cap2 a.1
theorem opQ_zero {w G : World} {a : Q × Int} {c : Int} (h : a = (zQ, c)) (hb : Below w.heap.size w G) : OpQ w a (.returned (.tuple #[.agg zqueue, .int .i64 c])) G := by
  subst h
  exact ⟨hb, none, 0, 0, none, 0, 0, rfl, zQ_in G⟩

theorem ERow.base {w : World} {b b' : Nat} {v : Value} {l : List E} (h : ERow w b v l) (hb : b' ≤ b) : ERow w b' v l := ownsRow_base h hb
theorem op_endB {W4 w5 : World} {adv : Option Addr} {M capv : Nat} {l : List E} (o : Obj) (h : Below W4.heap.size W4 w5 ∧ ERow w5 W4.heap.size (.slice adv M capv) l) :
    Below W4.heap.size W4 (w5.alloc o) ∧ W4.heap.size ≤ w5.heap.size ∧ (w5.alloc o).heap[w5.heap.size]? = some o ∧ ERow (w5.alloc o) W4.heap.size (.slice adv M capv) l :=
  ⟨h.1.alloc h.1.size _, h.1.size, blk_new w5 o, h.2.alloc o⟩
theorem op_endA {W4 w5 : World} {adv : Option Addr} {M capv g : Nat} {l : List E} (h : Below W4.heap.size W4 w5 ∧ ERow w5 W4.heap.size (.slice adv M capv) l) (hg : W4.heap.size ≤ g) {x0 x1 x2 x3 x4 x5 x6 x7 x8 x9 : Value} (hq : w5.heap[g]? = some (.cells #[x0, x1, x2, x3, x4, x5, x6, x7, x8, x9] 30 (0, 0))) (v0 v1 v2 v3 v4 v5 v6 v7 v8 v9 : Value) :
    Below W4.heap.size W4 (put10 w5 g v0 v1 v2 v3 v4 v5 v6 v7 v8 v9) ∧ W4.heap.size ≤ g ∧ (put10 w5 g v0 v1 v2 v3 v4 v5 v6 v7 v8 v9).heap[g]? = some (.cells #[v0, v1, v2, v3, v4, v5, v6, v7, v8, v9] 30 (0, 0)) ∧ ERow (put10 w5 g v0 v1 v2 v3 v4 v5 v6 v7 v8 v9) W4.heap.size (.slice adv M capv) l := by
  have hne : (Value.slice adv M capv).ownBlock ≠ some g := fun e => by
    rcases h.2.2 with ⟨hv, _⟩ | ⟨g', cap, cur, hv, _, hgc, _⟩
    · rw [hv] at e; simp [Value.ownBlock] at e
    · rw [hv] at e
      simp [Value.ownBlock] at e
      subst e
      rw [hq] at hgc
      cases hgc
  refine ⟨below_put10 h.1 hg _ _ _ _ _ _ _ _ _ _, hg, cell_put10 hq _ _ _ _ _ _ _ _ _ _, h.2.kept (put10_grown w5 g v0 v1 v2 v3 v4 v5 v6 v7 v8 v9) (.inr hne)⟩
theorem rat_mono {w : World} {B B' : Nat} {ad : Option Addr} {rs : List Rec} (h : RAt w B ad rs) (hb : B ≤ B') : RAt w B' ad rs := fun hne => by
  obtain ⟨g, off, e, hg, hc⟩ := h hne
  exact ⟨g, off, e, Nat.lt_of_lt_of_le hg hb, hc⟩

set_option maxHeartbeats 8000000 in
theorem qopen_any (w : World) (ad : Option Addr) (n cap : Nat) (d : D) (size most : Int) (h : DIn w ad n cap d.fuse d.fault d.files) (hs : Num size) (hm : Num most) (hT : Tabs w) (hw : 5 < w.heap.size) :
    Calls Tryz.prog 6 #[.agg (dcells (.slice ad n cap) d.down d.fuse d.fault), .int .i64 size, .int .i64 most] w (OpQ w (openQ d size most)) := by
  obtain ⟨fs, down, fuse, fault⟩ := d
  obtain ⟨X0, hX0⟩ : ∃ X, X = (w.alloc (.cells (dcells (.slice ad n cap) down fuse fault) 24)).alloc (.cells zqueue 30) := ⟨_, rfl⟩
  have hb0 : Below w.heap.size w X0 := by rw [hX0]; exact ((Below.refl _ w).alloc (Nat.le_refl _) _).alloc (by simp) _
  have hx0 : X0.heap[w.heap.size]? = some (.cells (dcells (.slice ad n cap) down fuse fault) 24 (0, 0)) := by rw [hX0]; exact blk_alloc (blk_new w _) _
  have hx1 : X0.heap[w.heap.size + 1]? = some (.cells zqueue 30 (0, 0)) := by rw [hX0]; exact blk_at (by simp)
  have hs0 : X0.heap.size = w.heap.size + 2 := by rw [hX0]; simp
  have Hh := Lib.hid h
  have HD := Lib.hid (h.under hb0)
  have HT := Lib.hid (hT.under hb0)
  have HB := Lib.hid hb0
  have Hz := Lib.hid hx1
  have Hx := Lib.hid hx0
  have Hs := Lib.hid hs
  have Hm := Lib.hid hm
  clear h hT hb0 hx1 hs hm
  go_enter Tryz.func6, Tryz.ntmps6
  go_upto_region 1 with (fail)
  rw [← hX0]
  clear hX0
  obtain ⟨d0, d1, d2, d3⟩ := box4' hx0
  have hl0 := (Array.getElem?_eq_some_iff.1 hx0).1
  clear hx0
  have hsz : w.heap.size + 2 ≤ X0.heap.size := by omega
  by_cases hR : Right fs
  rotate_left
  · have hoq : openQ ⟨fs, down, fuse, fault⟩ size most = (zQ, 6) := by unfold openQ; rw [if_pos hR]
    have Hoq := Lib.hid hoq
    have hck := check_no X0 ad cap n down fuse fault fs HD.out.i.1 HD.out.i.2.2.2 HD.out.fit hR
    have Hck := Lib.hid hck
    clear hck hoq hR
    go_wp2_with fail
    refine Hck.out.mono ?_
    rintro e w1 ⟨rfl, hb⟩
    replace Hz := Lib.hid ((hb.block _ (by omega)).trans Hz.out)
    replace HB := Lib.hid (HB.out.trans (hb.mono HB.out.size))
    have hsz1 := hb.size
    clear hb d0 d1 d2 d3 hl0
    have hly := (Array.getElem?_eq_some_iff.1 Hz.out).1
    obtain ⟨y0, y1, y2, y3, y4, y5, y6, y7, y8, y9⟩ := box10 Hz.out
    obtain ⟨z0, z1, z2, z3, z4, z5, z6, z7, z8, z9⟩ := frz10 Hz.out
    have hput := cell_put10 Hz.out (.slice none 0 0) (.bool false) (.int .i64 0) (.int .i64 0) (.int .i64 0) (.int .u64 0) (.int .u64 0) (.bool false) (.slice none 0 0) (.int .i64 0)
    obtain ⟨p0, p1, p2, p3, p4, p5, p6, p7, p8, p9⟩ := box10 hput
    clear hput
    go_wp2
    refine bodyPost_ret (v := .tuple #[.agg zqueue, .int .i64 6]) (by simp [results, Tryz.results6, go_sem, p0, p1, p2, p3, p4, p5, p6, p7, p8, p9]) rfl ?_
    obtain ⟨G, hG⟩ : ∃ G, G = ((((((((((w1.setCell ⟨w.heap.size + 1, 0, none⟩ (.slice none 0 0)).setCell ⟨w.heap.size + 1, 1, none⟩ (.bool false)).setCell ⟨w.heap.size + 1, 2, none⟩ (.int .i64 0)).setCell ⟨w.heap.size + 1, 3, none⟩ (.int .i64 0)).setCell ⟨w.heap.size + 1, 4, none⟩ (.int .i64 0)).setCell ⟨w.heap.size + 1, 5, none⟩ (.int .u64 0)).setCell ⟨w.heap.size + 1, 6, none⟩ (.int .u64 0)).setCell ⟨w.heap.size + 1, 7, none⟩ (.bool false)).setCell ⟨w.heap.size + 1, 8, none⟩ (.slice none 0 0)).setCell ⟨w.heap.size + 1, 9, none⟩ (.int .i64 0)) := ⟨_, rfl⟩
    rw [← hG]
    have hG2 : Below w.heap.size w G := by rw [hG]; exact below_put10 HB.out (by omega) _ _ _ _ _ _ _ _ _ _
    clear hG
    exact opQ_zero Hoq.out hG2
  have hck := check_ok X0 ad cap n down fuse fault fs HD.out.i.1 HD.out.i.2.2.2 hR
  have Hck := Lib.hid hck
  have HR := Lib.hid hR
  clear hck hR
  go_wp2_with fail
  refine Hck.out.mono ?_
  rintro e w1 ⟨rfl, hb⟩
  replace Hz := Lib.hid ((hb.block _ (by omega)).trans Hz.out)
  replace Hx := Lib.hid ((hb.block _ (by omega)).trans Hx.out)
  replace HB := Lib.hid (HB.out.trans (hb.mono HB.out.size))
  replace HD := Lib.hid (HD.out.under hb)
  replace HT := Lib.hid (HT.out.under hb)
  have hsz1 := hb.size
  clear hb d0 d1 d2 d3 hl0 Hck
  by_cases hmo : 1 ≤ most ∧ most ≤ 1024
  rotate_left
  · have hoq : openQ ⟨fs, down, fuse, fault⟩ size most = (zQ, 2) := by unfold openQ; rw [if_neg (fun h => h HR.out), if_pos hmo]
    have Hoq := Lib.hid hoq
    have him := isMost_any w1 most
    rw [show (decide (1 ≤ most) && decide (most ≤ 1024)) = false by
      cases hq : (decide (1 ≤ most) && decide (most ≤ 1024)) with
      | false => rfl
      | true => simp at hq; exact absurd hq hmo] at him
    have Him := Lib.hid him
    clear him hoq hmo
    go_wp2_with fail
    refine Him.out.mono ?_
    rintro e w2 ⟨rfl, rfl⟩
    have hly := (Array.getElem?_eq_some_iff.1 Hz.out).1
    obtain ⟨y0, y1, y2, y3, y4, y5, y6, y7, y8, y9⟩ := box10 Hz.out
    obtain ⟨z0, z1, z2, z3, z4, z5, z6, z7, z8, z9⟩ := frz10 Hz.out
    have hput := cell_put10 Hz.out (.slice none 0 0) (.bool false) (.int .i64 0) (.int .i64 0) (.int .i64 0) (.int .u64 0) (.int .u64 0) (.bool false) (.slice none 0 0) (.int .i64 0)
    obtain ⟨p0, p1, p2, p3, p4, p5, p6, p7, p8, p9⟩ := box10 hput
    clear hput
    go_wp2
    refine bodyPost_ret (v := .tuple #[.agg zqueue, .int .i64 2]) (by simp [results, Tryz.results6, go_sem, p0, p1, p2, p3, p4, p5, p6, p7, p8, p9]) rfl ?_
    obtain ⟨G, hG⟩ : ∃ G, G = ((((((((((w1.setCell ⟨w.heap.size + 1, 0, none⟩ (.slice none 0 0)).setCell ⟨w.heap.size + 1, 1, none⟩ (.bool false)).setCell ⟨w.heap.size + 1, 2, none⟩ (.int .i64 0)).setCell ⟨w.heap.size + 1, 3, none⟩ (.int .i64 0)).setCell ⟨w.heap.size + 1, 4, none⟩ (.int .i64 0)).setCell ⟨w.heap.size + 1, 5, none⟩ (.int .u64 0)).setCell ⟨w.heap.size + 1, 6, none⟩ (.int .u64 0)).setCell ⟨w.heap.size + 1, 7, none⟩ (.bool false)).setCell ⟨w.heap.size + 1, 8, none⟩ (.slice none 0 0)).setCell ⟨w.heap.size + 1, 9, none⟩ (.int .i64 0)) := ⟨_, rfl⟩
    rw [← hG]
    have hG2 : Below w.heap.size w G := by rw [hG]; exact below_put10 HB.out (by omega) _ _ _ _ _ _ _ _ _ _
    clear hG
    exact opQ_zero Hoq.out hG2
  have him := isMost_any w1 most
  rw [show (decide (1 ≤ most) && decide (most ≤ 1024)) = true by simp [hmo]] at him
  have Him := Lib.hid him
  have Hmo := Lib.hid hmo
  clear him hmo
  go_wp2_with fail
  refine Him.out.mono ?_
  rintro e w2 ⟨rfl, rfl⟩
  obtain ⟨d0, d1, d2, d3⟩ := box4' Hx.out
  have hl0 := (Array.getElem?_eq_some_iff.1 Hx.out).1
  clear Him
  go_wp2_with fail
  refine (open_any w1 ad n cap ⟨fs, down, fuse, fault⟩ size HD.out HT.out (by omega)).mono ?_
  rintro e w3 ⟨hb, ad2, n2, cap2, ad3, cap3, rfl, hd2, ho2, hra, hcap⟩
  have hlin : LIn w3 ad2 n2 cap2 (openM ⟨fs, down, fuse, fault⟩ size).1 := openM_lin ⟨Hh.out.u0, Hh.out.u1⟩ ⟨Hh.out.f0, Hh.out.f1⟩ Hs.out hd2
  have hlen := openM_len (d := ⟨fs, down, fuse, fault⟩) (size := size)
  obtain ⟨⟨l, rs, c⟩, hop⟩ : ∃ r, openM ⟨fs, down, fuse, fault⟩ size = r := ⟨_, rfl⟩
  have hoq : openQ ⟨fs, down, fuse, fault⟩ size most = if c ≠ 0 then (unop l most, c) else if 1024 < (entM rs).length then (zQ, 3) else (⟨l, entM rs, most⟩, 0) := by
    unfold openQ
    rw [if_neg (fun h => h HR.out), if_neg (fun h => h Hmo.out), hop]
  rw [hop] at hlin hlen hd2 hra hcap ⊢
  simp only at hlin hlen hd2 hra hcap
  obtain ⟨N, hN⟩ : ∃ N, rs.length = N := ⟨_, rfl⟩
  rw [hN] at hlen hcap
  simp only [hN]
  replace Hz := Lib.hid ((hb.block _ (by omega)).trans Hz.out)
  replace HB := Lib.hid (HB.out.trans (hb.mono HB.out.size))
  have hsz3 := hb.size
  have Hoq := Lib.hid hoq
  have Hlin := Lib.hid hlin
  have Hra := Lib.hid hra
  have HN := Lib.hid hN
  have Hho := Lib.hid ho2
  obtain ⟨⟨fs2, dn2, fu2, fa2⟩, sz2, fr2, nx2, br2⟩ := l
  obtain ⟨W4, hW4⟩ : ∃ W, W = w3.alloc (.cells (lcells (.slice ad2 n2 cap2) dn2 fu2 fa2 sz2 fr2 nx2 br2) 27) := ⟨_, rfl⟩
  have hb4 : Below w3.heap.size w3 W4 := by rw [hW4]; exact (Below.refl _ w3).alloc (Nat.le_refl _) _
  have hx4 : W4.heap[w3.heap.size]? = some (.cells (lcells (.slice ad2 n2 cap2) dn2 fu2 fa2 sz2 fr2 nx2 br2) 27 (0, 0)) := by rw [hW4]; exact blk_new w3 _
  replace Hz := Lib.hid ((hb4.block _ (by omega)).trans Hz.out)
  replace HB := Lib.hid (HB.out.trans (hb4.mono HB.out.size))
  replace Hlin := Lib.hid (Hlin.out.under hb4)
  replace Hra := Lib.hid (rat_mono (Hra.out.keep hb4) hb4.size)
  have hsz4 : w3.heap.size + 1 = W4.heap.size := by rw [hW4]; simp
  have Hsz4 := Lib.hid hsz4
  have Hx4 := Lib.hid hx4
  clear hb hb4 hoq hlin hra hd2 ho2 hop hN hcap d0 d1 d2 d3 hl0 hsz4
  go_upto_region 7 with (fail)
  rw [← hW4]
  clear hW4
  by_cases hc : c = 0
  rotate_left
  · have hc1 : (c != 0) = true := by simp [hc]
    have Hc := Lib.hid hc
    obtain ⟨d0, d1, d2, d3, d4, d5, d6, d7⟩ := box8 hx4
    have hl4 := (Array.getElem?_eq_some_iff.1 hx4).1
    clear hc hx4
    go_wp2_with fail
    refine (unopened_any W4 ad2 n2 cap2 ⟨⟨fs2, dn2, fu2, fa2⟩, sz2, fr2, nx2, br2⟩ most).mono ?_
    rintro e w5 ⟨hb, ad5, n5, cap5, rfl, hor⟩
    have hsz5 := hb.size
    replace Hz := Lib.hid ((hb.block _ (by have := Hsz4.out; omega)).trans Hz.out)
    replace HB := Lib.hid (HB.out.trans (hb.mono HB.out.size))
    have hq5 : QIn w5 ad5 n5 cap5 none 0 0 (unop ⟨⟨fs2, dn2, fu2, fa2⟩, sz2, fr2, nx2, br2⟩ most) := by
      rcases hor with ⟨e1, rfl, rfl, rfl⟩ | ⟨e1, rfl, rfl, rfl⟩
      · simp only at e1
        subst e1
        exact ⟨Hlin.out.under hb, ⟨rfl, Nat.le_refl _, fun _ => rfl, fun h => absurd rfl h⟩, fun e h => by simp [unop] at h, Hm.out⟩
      · simp only at e1
        subst e1
        exact zQ_in w5
    obtain ⟨⟨⟨⟨fs5, dn5, fu5, fa5⟩, sz5, fr5, nx5, br5⟩, es5, mo5⟩, hun⟩ : ∃ q, unop ⟨⟨fs2, dn2, fu2, fa2⟩, sz2, fr2, nx2, br2⟩ most = q := ⟨_, rfl⟩
    have hoq2 : openQ ⟨fs, down, fuse, fault⟩ size most = (⟨⟨⟨fs5, dn5, fu5, fa5⟩, sz5, fr5, nx5, br5⟩, es5, mo5⟩, c) := by rw [Hoq.out, if_pos Hc.out, hun]
    rw [hun] at hq5 ⊢
    have Hoq2 := Lib.hid hoq2
    have Hq5 := Lib.hid hq5
    have hown5 : ∀ b, (Value.slice ad5 n5 cap5).ownBlock = some b → b ≠ w.heap.size + 1 := fun b e => by
      rcases hor with ⟨_, rfl, rfl, rfl⟩ | ⟨_, rfl, rfl, rfl⟩
      · have := Hho.out b e; omega
      · simp [Value.ownBlock] at e
    have Hown5 := Lib.hid hown5
    clear hun hoq2 hq5 hor hown5 d0 d1 d2 d3 d4 d5 d6 d7 hl4
    have hly := (Array.getElem?_eq_some_iff.1 Hz.out).1
    obtain ⟨y0, y1, y2, y3, y4, y5, y6, y7, y8, y9⟩ := box10 Hz.out
    obtain ⟨z0, z1, z2, z3, z4, z5, z6, z7, z8, z9⟩ := frz10 Hz.out
    have hput := cell_put10 Hz.out (.slice ad5 n5 cap5) (.bool dn5) (.int .i64 fu5) (.int .i64 fa5) (.int .i64 sz5) (.int .u64 fr5) (.int .u64 nx5) (.bool br5) (.slice none 0 0) (.int .i64 mo5)
    obtain ⟨p0, p1, p2, p3, p4, p5, p6, p7, p8, p9⟩ := box10 hput
    clear hput
    go_wp2
    refine bodyPost_ret (v := .tuple #[.agg (qcells (.slice ad5 n5 cap5) dn5 fu5 fa5 sz5 fr5 nx5 br5 (.slice none 0 0) mo5), .int .i64 c]) (by simp [results, Tryz.results6, go_sem, p0, p1, p2, p3, p4, p5, p6, p7, p8, p9]) rfl ?_
    obtain ⟨G, hG⟩ : ∃ G, G = ((((((((((w5.setCell ⟨w.heap.size + 1, 0, none⟩ (.slice ad5 n5 cap5)).setCell ⟨w.heap.size + 1, 1, none⟩ (.bool dn5)).setCell ⟨w.heap.size + 1, 2, none⟩ (.int .i64 fu5)).setCell ⟨w.heap.size + 1, 3, none⟩ (.int .i64 fa5)).setCell ⟨w.heap.size + 1, 4, none⟩ (.int .i64 sz5)).setCell ⟨w.heap.size + 1, 5, none⟩ (.int .u64 fr5)).setCell ⟨w.heap.size + 1, 6, none⟩ (.int .u64 nx5)).setCell ⟨w.heap.size + 1, 7, none⟩ (.bool br5)).setCell ⟨w.heap.size + 1, 8, none⟩ (.slice none 0 0)).setCell ⟨w.heap.size + 1, 9, none⟩ (.int .i64 mo5)) := ⟨_, rfl⟩
    rw [← hG]
    have hG2 : Below w.heap.size w G := by rw [hG]; exact below_put10 HB.out (by omega) _ _ _ _ _ _ _ _ _ _
    have hGo : ∀ b, b ≠ w.heap.size + 1 → G.heap[b]? = w5.heap[b]? := fun b hb => by rw [hG]; exact put10_other hb _ _ _ _ _ _ _ _ _ _
    have hGz : G.heap.size = w5.heap.size := by rw [hG]; exact put10_size _ _ _ _ _ _ _ _ _ _ _ _
    clear hG
    rw [Hoq2.out]
    exact ⟨hG2, _, _, _, _, _, _, rfl, Hq5.out.same (by omega) (fun b e => hGo b (Hown5.out b e)) (fun b e => hGo b ((fun b e => by simp [Value.ownBlock] at e) b e))⟩
  subst hc
  have hoq2 : openQ ⟨fs, down, fuse, fault⟩ size most = if 1024 < (entM rs).length then (zQ, 3) else (⟨⟨⟨fs2, dn2, fu2, fa2⟩, sz2, fr2, nx2, br2⟩, entM rs, most⟩, 0) := by rw [Hoq.out, if_neg (by simp)]
  have Hoq1 := Lib.hid hoq2
  clear hoq2 hx4
  go_upto_region 9 with (fail)
  refine Code.wp_mono (Q := fun e a' w' => e = .normal ∧ ∃ bq adv capv, Below W4.heap.size W4 w' ∧ W4.heap.size ≤ bq ∧ w'.heap[bq]? = some (.cells (qcells (.slice ad2 n2 cap2) dn2 fu2 fa2 sz2 fr2 nx2 br2 (.slice adv (entM rs).length capv) most) 30 (0, 0)) ∧ ERow w' W4.heap.size (.slice adv (entM rs).length capv) (entM rs) ∧ (∃ u36 u37 u38 u39 u40 : Value, a' = ⟨#[.agg (dcells (.slice ad n cap) down fuse fault), .int .i64 size, .int .i64 most, .pointer (some ⟨w.heap.size, 0, none⟩), undef, undef, .pointer (some ⟨w.heap.size + 1, 0, none⟩), .int .i64 0, .int .i64 0, .pointer (some ⟨w3.heap.size, 0, none⟩), .slice ad3 N cap3, .int .i64 0, .pointer (some ⟨bq, 0, none⟩), .agg (dcells (.slice ad n cap) down fuse fault), .int .i64 0, .int .i64 0, .bool false, undef, undef, .int .i64 most, .bool true, .bool false, undef, .tuple #[.agg (lcells (.slice ad2 n2 cap2) dn2 fu2 fa2 sz2 fr2 nx2 br2), .slice ad3 N cap3, .int .i64 0], .agg (dcells (.slice ad n cap) down fuse fault), .int .i64 size, .tuple #[.agg (lcells (.slice ad2 n2 cap2) dn2 fu2 fa2 sz2 fr2 nx2 br2), .slice ad3 N cap3, .int .i64 0], .agg (lcells (.slice ad2 n2 cap2) dn2 fu2 fa2 sz2 fr2 nx2 br2), .slice ad3 N cap3, .int .i64 0, .int .i64 0, .bool false, undef, undef, undef, undef, u36, u37, u38, u39, u40, undef, undef, undef, undef, undef, undef], []⟩)) ?post ?reg
  case reg =>
    obtain ⟨X9, hX⟩ : ∃ X, W4.drew = X := ⟨_, rfl⟩
    have hbX : Below W4.heap.size W4 X9 := by rw [← hX]; exact (Below.refl _ W4).drew
    have hx9 := (hbX.block _ (by have := Hsz4.out; omega)).trans Hx4.out
    have hra9 := rat_mono (Hra.out.keep hbX) hbX.size
    have hb1 : Below X9.heap.size X9 (X9.alloc (.cells zqueue 30)) := (Below.refl _ X9).alloc (Nat.le_refl _) _
    have hsz9 : W4.heap.size ≤ X9.heap.size := hbX.size
    have HbX := Lib.hid hbX
    have Hx9 := Lib.hid hx9
    have HRA := Lib.hid hra9
    have HRA1 := Lib.hid (rat_mono (hra9.keep hb1) hb1.size)
    have Hx91 := Lib.hid ((hb1.block _ (by have := Hsz4.out; omega)).trans hx9)
    obtain ⟨c0, c1, c2, c3, c4, c5, c6, c7⟩ := box8 hx9
    have hlc := (Array.getElem?_eq_some_iff.1 hx9).1
    clear hbX hra9 hb1 hx9
    refine wp_region_any (by kernel_rfl) ?_
    change wpAny _ _ _ _ _ _ _ W4.drew
    rw [hX]
    clear hX
    refine wpAny_take (i := 1) (v := ?va1) rfl (by kernel_rfl) (by kernel_rfl) (by kernel_rfl) (fun _ _ _ h => nomatch h.1) (Or.inl ⟨by kernel_rfl, ?ha1⟩) ?ra1
    case ha1 => (intro w; go_simp; first | done | (with_reducible rfl))
    refine wpAny_take (i := 3) (v := ?va2) rfl (by kernel_rfl) (by kernel_rfl) (by kernel_rfl) (fun _ _ _ h => nomatch h.1) (Or.inl ⟨by kernel_rfl, ?ha2⟩) ?ra2
    case ha2 => (intro w; go_simp; first | done | (with_reducible rfl))
    refine wpAny_ready (rs := [0, 2, 5]) (by kernel_rfl) (by simp) ?_
    refine AllReady.cons rfl (fun K hK => ?_) ?_
    · skip
      go_simp
      refine hK _ _ ?_
      clear hK K
      refine wpAny_ready (rs := [2, 5]) (by kernel_rfl) (by simp) ?_
      refine AllReady.cons rfl (fun K hK => ?_) ?_
      · skip
        go_simp
        go_at_call 27
        first | refine (entries_any X9 ad3 N cap3 rs HN.out.symm HRA.out (by rw [HN.out]; omega)).mono ?_ | refine (entries_any (X9.alloc (.cells zqueue 30)) ad3 N cap3 rs HN.out.symm HRA1.out (by rw [HN.out]; omega)).mono ?_
        rintro e w5 ⟨v, rfl, hrow, hb5⟩
        obtain ⟨adv, capv, rfl, _, _, _⟩ := hrow.fls
        have hbW : Below W4.heap.size W4 w5 := by first | exact HbX.out.trans (hb5.mono HbX.out.size) | exact (HbX.out.alloc HbX.out.size _).trans (hb5.mono (by rw [World.size_alloc]; have := HbX.out.size; omega))
        have hx5 := (hbW.block _ (by have := Hsz4.out; omega)).trans Hx4.out
        clear c0 c1 c2 c3 c4 c5 c6 c7 hlc
        obtain ⟨c0, c1, c2, c3, c4, c5, c6, c7⟩ := box8 hx5
        have hlc := (Array.getElem?_eq_some_iff.1 hx5).1
        have HW := Lib.hid (show Below W4.heap.size W4 w5 ∧ ERow w5 W4.heap.size (.slice adv (entM rs).length capv) (entM rs) from ⟨hbW, ERow.base hrow (by first | exact hsz9 | (rw [World.size_alloc]; omega))⟩)
        obtain ⟨M, hM⟩ : ∃ M, (entM rs).length = M := ⟨_, rfl⟩
        rw [hM] at HW ⊢
        have HM := Lib.hid hM
        first | (have hq5 := (hb5.block X9.heap.size (by simp)).trans (blk_new X9 _); have Hq5 := Lib.hid hq5; have hlq := (Array.getElem?_eq_some_iff.1 hq5).1; obtain ⟨z0, z1, z2, z3, z4, z5, z6, z7, z8, z9⟩ := frz10 hq5; obtain ⟨y0, y1, y2, y3, y4, y5, y6, y7, y8, y9⟩ := box10 hq5; clear hq5) | skip
        clear hx5 hrow hbW hb5 hM
        refine hK _ _ ?_
        clear hK K
        refine wpAny_take (i := 4) (v := ?va3) rfl (by kernel_rfl) (by kernel_rfl) (by kernel_rfl) (fun _ _ _ h => nomatch h.1) (Or.inl ⟨by kernel_rfl, ?ha3⟩) ?ra3
        case ha3 => (intro w; go_simp; first | done | (with_reducible rfl))
        refine wpAny_ready (rs := [5]) (by kernel_rfl) (by simp) ?_
        refine AllReady.cons rfl (fun K hK => ?_) AllReady.nil
        go_simp
        refine hK _ _ ?_
        clear hK K
        refine wpAny_ready (rs := [6]) (by kernel_rfl) (by simp) ?_
        refine AllReady.cons rfl (fun K hK => ?_) AllReady.nil
        go_simp
        refine hK _ _ ?_
        clear hK K
        refine wpAny_done (by kernel_rfl) ?_ _
        first
          | (have hq5 := Hq5.out
             obtain ⟨G, hG⟩ : ∃ G, G = ((((((((((w5.setCell ⟨X9.heap.size, 0, none⟩ (.slice ad2 n2 cap2)).setCell ⟨X9.heap.size, 1, none⟩ (.bool dn2)).setCell ⟨X9.heap.size, 2, none⟩ (.int .i64 fu2)).setCell ⟨X9.heap.size, 3, none⟩ (.int .i64 fa2)).setCell ⟨X9.heap.size, 4, none⟩ (.int .i64 sz2)).setCell ⟨X9.heap.size, 5, none⟩ (.int .u64 fr2)).setCell ⟨X9.heap.size, 6, none⟩ (.int .u64 nx2)).setCell ⟨X9.heap.size, 7, none⟩ (.bool br2)).setCell ⟨X9.heap.size, 8, none⟩ (.slice adv M capv)).setCell ⟨X9.heap.size, 9, none⟩ (.int .i64 most)) := ⟨_, rfl⟩
             rw [← hG]
             have hG2 : G = put10 w5 X9.heap.size (.slice ad2 n2 cap2) (.bool dn2) (.int .i64 fu2) (.int .i64 fa2) (.int .i64 sz2) (.int .u64 fr2) (.int .u64 nx2) (.bool br2) (.slice adv M capv) (.int .i64 most) := hG
             have r := op_endA HW.out hsz9 hq5 (.slice ad2 n2 cap2) (.bool dn2) (.int .i64 fu2) (.int .i64 fa2) (.int .i64 sz2) (.int .u64 fr2) (.int .u64 nx2) (.bool br2) (.slice adv M capv) (.int .i64 most)
             rw [← hG2] at r
             clear hG hG2
             obtain ⟨r1, r2, r3, r4⟩ := r
             exact ⟨rfl, X9.heap.size, adv, capv, r1, r2, (by rw [HM.out]; exact r3), (by rw [HM.out]; exact r4), _, _, _, _, _, rfl⟩)
          | (obtain ⟨r1, r2, r3, r4⟩ := op_endB (.cells (qcells (.slice ad2 n2 cap2) dn2 fu2 fa2 sz2 fr2 nx2 br2 (.slice adv M capv) most) 30 (0, 0)) HW.out
             exact ⟨rfl, w5.heap.size, adv, capv, r1, r2, (by rw [HM.out]; exact r3), (by rw [HM.out]; exact r4), _, _, _, _, _, rfl⟩)
      refine AllReady.cons rfl (fun K hK => ?_) AllReady.nil
      go_simp
      refine hK _ _ ?_
      clear hK K
      refine wpAny_ready (rs := [2]) (by kernel_rfl) (by simp) ?_
      refine AllReady.cons rfl (fun K hK => ?_) AllReady.nil
      go_simp
      go_at_call 27
      first | refine (entries_any X9 ad3 N cap3 rs HN.out.symm HRA.out (by rw [HN.out]; omega)).mono ?_ | refine (entries_any (X9.alloc (.cells zqueue 30)) ad3 N cap3 rs HN.out.symm HRA1.out (by rw [HN.out]; omega)).mono ?_
      rintro e w5 ⟨v, rfl, hrow, hb5⟩
      obtain ⟨adv, capv, rfl, _, _, _⟩ := hrow.fls
      have hbW : Below W4.heap.size W4 w5 := by first | exact HbX.out.trans (hb5.mono HbX.out.size) | exact (HbX.out.alloc HbX.out.size _).trans (hb5.mono (by rw [World.size_alloc]; have := HbX.out.size; omega))
      have hx5 := (hbW.block _ (by have := Hsz4.out; omega)).trans Hx4.out
      clear c0 c1 c2 c3 c4 c5 c6 c7 hlc
      obtain ⟨c0, c1, c2, c3, c4, c5, c6, c7⟩ := box8 hx5
      have hlc := (Array.getElem?_eq_some_iff.1 hx5).1
      have HW := Lib.hid (show Below W4.heap.size W4 w5 ∧ ERow w5 W4.heap.size (.slice adv (entM rs).length capv) (entM rs) from ⟨hbW, ERow.base hrow (by first | exact hsz9 | (rw [World.size_alloc]; omega))⟩)
      obtain ⟨M, hM⟩ : ∃ M, (entM rs).length = M := ⟨_, rfl⟩
      rw [hM] at HW ⊢
      have HM := Lib.hid hM
      first | (have hq5 := (hb5.block X9.heap.size (by simp)).trans (blk_new X9 _); have Hq5 := Lib.hid hq5; have hlq := (Array.getElem?_eq_some_iff.1 hq5).1; obtain ⟨z0, z1, z2, z3, z4, z5, z6, z7, z8, z9⟩ := frz10 hq5; obtain ⟨y0, y1, y2, y3, y4, y5, y6, y7, y8, y9⟩ := box10 hq5; clear hq5) | skip
      clear hx5 hrow hbW hb5 hM
      refine hK _ _ ?_
      clear hK K
      refine wpAny_take (i := 4) (v := ?va4) rfl (by kernel_rfl) (by kernel_rfl) (by kernel_rfl) (fun _ _ _ h => nomatch h.1) (Or.inl ⟨by kernel_rfl, ?ha4⟩) ?ra4
      case ha4 => (intro w; go_simp; first | done | (with_reducible rfl))
      refine wpAny_ready (rs := [6]) (by kernel_rfl) (by simp) ?_
      refine AllReady.cons rfl (fun K hK => ?_) AllReady.nil
      go_simp
      refine hK _ _ ?_
      clear hK K
      refine wpAny_done (by kernel_rfl) ?_ _
      first
        | (have hq5 := Hq5.out
           obtain ⟨G, hG⟩ : ∃ G, G = ((((((((((w5.setCell ⟨X9.heap.size, 0, none⟩ (.slice ad2 n2 cap2)).setCell ⟨X9.heap.size, 1, none⟩ (.bool dn2)).setCell ⟨X9.heap.size, 2, none⟩ (.int .i64 fu2)).setCell ⟨X9.heap.size, 3, none⟩ (.int .i64 fa2)).setCell ⟨X9.heap.size, 4, none⟩ (.int .i64 sz2)).setCell ⟨X9.heap.size, 5, none⟩ (.int .u64 fr2)).setCell ⟨X9.heap.size, 6, none⟩ (.int .u64 nx2)).setCell ⟨X9.heap.size, 7, none⟩ (.bool br2)).setCell ⟨X9.heap.size, 8, none⟩ (.slice adv M capv)).setCell ⟨X9.heap.size, 9, none⟩ (.int .i64 most)) := ⟨_, rfl⟩
           rw [← hG]
           have hG2 : G = put10 w5 X9.heap.size (.slice ad2 n2 cap2) (.bool dn2) (.int .i64 fu2) (.int .i64 fa2) (.int .i64 sz2) (.int .u64 fr2) (.int .u64 nx2) (.bool br2) (.slice adv M capv) (.int .i64 most) := hG
           have r := op_endA HW.out hsz9 hq5 (.slice ad2 n2 cap2) (.bool dn2) (.int .i64 fu2) (.int .i64 fa2) (.int .i64 sz2) (.int .u64 fr2) (.int .u64 nx2) (.bool br2) (.slice adv M capv) (.int .i64 most)
           rw [← hG2] at r
           clear hG hG2
           obtain ⟨r1, r2, r3, r4⟩ := r
           exact ⟨rfl, X9.heap.size, adv, capv, r1, r2, (by rw [HM.out]; exact r3), (by rw [HM.out]; exact r4), _, _, _, _, _, rfl⟩)
        | (obtain ⟨r1, r2, r3, r4⟩ := op_endB (.cells (qcells (.slice ad2 n2 cap2) dn2 fu2 fa2 sz2 fr2 nx2 br2 (.slice adv M capv) most) 30 (0, 0)) HW.out
           exact ⟨rfl, w5.heap.size, adv, capv, r1, r2, (by rw [HM.out]; exact r3), (by rw [HM.out]; exact r4), _, _, _, _, _, rfl⟩)
    refine AllReady.cons rfl (fun K hK => ?_) ?_
    · skip
      go_simp
      go_at_call 27
      first | refine (entries_any X9 ad3 N cap3 rs HN.out.symm HRA.out (by rw [HN.out]; omega)).mono ?_ | refine (entries_any (X9.alloc (.cells zqueue 30)) ad3 N cap3 rs HN.out.symm HRA1.out (by rw [HN.out]; omega)).mono ?_
      rintro e w5 ⟨v, rfl, hrow, hb5⟩
      obtain ⟨adv, capv, rfl, _, _, _⟩ := hrow.fls
      have hbW : Below W4.heap.size W4 w5 := by first | exact HbX.out.trans (hb5.mono HbX.out.size) | exact (HbX.out.alloc HbX.out.size _).trans (hb5.mono (by rw [World.size_alloc]; have := HbX.out.size; omega))
      have hx5 := (hbW.block _ (by have := Hsz4.out; omega)).trans Hx4.out
      clear c0 c1 c2 c3 c4 c5 c6 c7 hlc
      obtain ⟨c0, c1, c2, c3, c4, c5, c6, c7⟩ := box8 hx5
      have hlc := (Array.getElem?_eq_some_iff.1 hx5).1
      have HW := Lib.hid (show Below W4.heap.size W4 w5 ∧ ERow w5 W4.heap.size (.slice adv (entM rs).length capv) (entM rs) from ⟨hbW, ERow.base hrow (by first | exact hsz9 | (rw [World.size_alloc]; omega))⟩)
      obtain ⟨M, hM⟩ : ∃ M, (entM rs).length = M := ⟨_, rfl⟩
      rw [hM] at HW ⊢
      have HM := Lib.hid hM
      first | (have hq5 := (hb5.block X9.heap.size (by simp)).trans (blk_new X9 _); have Hq5 := Lib.hid hq5; have hlq := (Array.getElem?_eq_some_iff.1 hq5).1; obtain ⟨z0, z1, z2, z3, z4, z5, z6, z7, z8, z9⟩ := frz10 hq5; obtain ⟨y0, y1, y2, y3, y4, y5, y6, y7, y8, y9⟩ := box10 hq5; clear hq5) | skip
      clear hx5 hrow hbW hb5 hM
      refine hK _ _ ?_
      clear hK K
      refine wpAny_ready (rs := [0, 5]) (by kernel_rfl) (by simp) ?_
      refine AllReady.cons rfl (fun K hK => ?_) ?_
      · skip
        go_simp
        refine hK _ _ ?_
        clear hK K
        refine wpAny_take (i := 4) (v := ?va5) rfl (by kernel_rfl) (by kernel_rfl) (by kernel_rfl) (fun _ _ _ h => nomatch h.1) (Or.inl ⟨by kernel_rfl, ?ha5⟩) ?ra5
        case ha5 => (intro w; go_simp; first | done | (with_reducible rfl))
        refine wpAny_ready (rs := [5]) (by kernel_rfl) (by simp) ?_
        refine AllReady.cons rfl (fun K hK => ?_) AllReady.nil
        go_simp
        refine hK _ _ ?_
        clear hK K
        refine wpAny_ready (rs := [6]) (by kernel_rfl) (by simp) ?_
        refine AllReady.cons rfl (fun K hK => ?_) AllReady.nil
        go_simp
        refine hK _ _ ?_
        clear hK K
        refine wpAny_done (by kernel_rfl) ?_ _
        first
          | (have hq5 := Hq5.out
             obtain ⟨G, hG⟩ : ∃ G, G = ((((((((((w5.setCell ⟨X9.heap.size, 0, none⟩ (.slice ad2 n2 cap2)).setCell ⟨X9.heap.size, 1, none⟩ (.bool dn2)).setCell ⟨X9.heap.size, 2, none⟩ (.int .i64 fu2)).setCell ⟨X9.heap.size, 3, none⟩ (.int .i64 fa2)).setCell ⟨X9.heap.size, 4, none⟩ (.int .i64 sz2)).setCell ⟨X9.heap.size, 5, none⟩ (.int .u64 fr2)).setCell ⟨X9.heap.size, 6, none⟩ (.int .u64 nx2)).setCell ⟨X9.heap.size, 7, none⟩ (.bool br2)).setCell ⟨X9.heap.size, 8, none⟩ (.slice adv M capv)).setCell ⟨X9.heap.size, 9, none⟩ (.int .i64 most)) := ⟨_, rfl⟩
             rw [← hG]
             have hG2 : G = put10 w5 X9.heap.size (.slice ad2 n2 cap2) (.bool dn2) (.int .i64 fu2) (.int .i64 fa2) (.int .i64 sz2) (.int .u64 fr2) (.int .u64 nx2) (.bool br2) (.slice adv M capv) (.int .i64 most) := hG
             have r := op_endA HW.out hsz9 hq5 (.slice ad2 n2 cap2) (.bool dn2) (.int .i64 fu2) (.int .i64 fa2) (.int .i64 sz2) (.int .u64 fr2) (.int .u64 nx2) (.bool br2) (.slice adv M capv) (.int .i64 most)
             rw [← hG2] at r
             clear hG hG2
             obtain ⟨r1, r2, r3, r4⟩ := r
             exact ⟨rfl, X9.heap.size, adv, capv, r1, r2, (by rw [HM.out]; exact r3), (by rw [HM.out]; exact r4), _, _, _, _, _, rfl⟩)
          | (obtain ⟨r1, r2, r3, r4⟩ := op_endB (.cells (qcells (.slice ad2 n2 cap2) dn2 fu2 fa2 sz2 fr2 nx2 br2 (.slice adv M capv) most) 30 (0, 0)) HW.out
             exact ⟨rfl, w5.heap.size, adv, capv, r1, r2, (by rw [HM.out]; exact r3), (by rw [HM.out]; exact r4), _, _, _, _, _, rfl⟩)
      refine AllReady.cons rfl (fun K hK => ?_) AllReady.nil
      go_simp
      refine hK _ _ ?_
      clear hK K
      refine wpAny_ready (rs := [0]) (by kernel_rfl) (by simp) ?_
      refine AllReady.cons rfl (fun K hK => ?_) AllReady.nil
      go_simp
      refine hK _ _ ?_
      clear hK K
      refine wpAny_take (i := 4) (v := ?va6) rfl (by kernel_rfl) (by kernel_rfl) (by kernel_rfl) (fun _ _ _ h => nomatch h.1) (Or.inl ⟨by kernel_rfl, ?ha6⟩) ?ra6
      case ha6 => (intro w; go_simp; first | done | (with_reducible rfl))
      refine wpAny_ready (rs := [6]) (by kernel_rfl) (by simp) ?_
      refine AllReady.cons rfl (fun K hK => ?_) AllReady.nil
      go_simp
      refine hK _ _ ?_
      clear hK K
      refine wpAny_done (by kernel_rfl) ?_ _
      first
        | (have hq5 := Hq5.out
           obtain ⟨G, hG⟩ : ∃ G, G = ((((((((((w5.setCell ⟨X9.heap.size, 0, none⟩ (.slice ad2 n2 cap2)).setCell ⟨X9.heap.size, 1, none⟩ (.bool dn2)).setCell ⟨X9.heap.size, 2, none⟩ (.int .i64 fu2)).setCell ⟨X9.heap.size, 3, none⟩ (.int .i64 fa2)).setCell ⟨X9.heap.size, 4, none⟩ (.int .i64 sz2)).setCell ⟨X9.heap.size, 5, none⟩ (.int .u64 fr2)).setCell ⟨X9.heap.size, 6, none⟩ (.int .u64 nx2)).setCell ⟨X9.heap.size, 7, none⟩ (.bool br2)).setCell ⟨X9.heap.size, 8, none⟩ (.slice adv M capv)).setCell ⟨X9.heap.size, 9, none⟩ (.int .i64 most)) := ⟨_, rfl⟩
           rw [← hG]
           have hG2 : G = put10 w5 X9.heap.size (.slice ad2 n2 cap2) (.bool dn2) (.int .i64 fu2) (.int .i64 fa2) (.int .i64 sz2) (.int .u64 fr2) (.int .u64 nx2) (.bool br2) (.slice adv M capv) (.int .i64 most) := hG
           have r := op_endA HW.out hsz9 hq5 (.slice ad2 n2 cap2) (.bool dn2) (.int .i64 fu2) (.int .i64 fa2) (.int .i64 sz2) (.int .u64 fr2) (.int .u64 nx2) (.bool br2) (.slice adv M capv) (.int .i64 most)
           rw [← hG2] at r
           clear hG hG2
           obtain ⟨r1, r2, r3, r4⟩ := r
           exact ⟨rfl, X9.heap.size, adv, capv, r1, r2, (by rw [HM.out]; exact r3), (by rw [HM.out]; exact r4), _, _, _, _, _, rfl⟩)
        | (obtain ⟨r1, r2, r3, r4⟩ := op_endB (.cells (qcells (.slice ad2 n2 cap2) dn2 fu2 fa2 sz2 fr2 nx2 br2 (.slice adv M capv) most) 30 (0, 0)) HW.out
           exact ⟨rfl, w5.heap.size, adv, capv, r1, r2, (by rw [HM.out]; exact r3), (by rw [HM.out]; exact r4), _, _, _, _, _, rfl⟩)
    refine AllReady.cons rfl (fun K hK => ?_) AllReady.nil
    go_simp
    refine hK _ _ ?_
    clear hK K
    refine wpAny_ready (rs := [0, 2]) (by kernel_rfl) (by simp) ?_
    refine AllReady.cons rfl (fun K hK => ?_) ?_
    · skip
      go_simp
      refine hK _ _ ?_
      clear hK K
      refine wpAny_ready (rs := [2]) (by kernel_rfl) (by simp) ?_
      refine AllReady.cons rfl (fun K hK => ?_) AllReady.nil
      go_simp
      go_at_call 27
      first | refine (entries_any X9 ad3 N cap3 rs HN.out.symm HRA.out (by rw [HN.out]; omega)).mono ?_ | refine (entries_any (X9.alloc (.cells zqueue 30)) ad3 N cap3 rs HN.out.symm HRA1.out (by rw [HN.out]; omega)).mono ?_
      rintro e w5 ⟨v, rfl, hrow, hb5⟩
      obtain ⟨adv, capv, rfl, _, _, _⟩ := hrow.fls
      have hbW : Below W4.heap.size W4 w5 := by first | exact HbX.out.trans (hb5.mono HbX.out.size) | exact (HbX.out.alloc HbX.out.size _).trans (hb5.mono (by rw [World.size_alloc]; have := HbX.out.size; omega))
      have hx5 := (hbW.block _ (by have := Hsz4.out; omega)).trans Hx4.out
      clear c0 c1 c2 c3 c4 c5 c6 c7 hlc
      obtain ⟨c0, c1, c2, c3, c4, c5, c6, c7⟩ := box8 hx5
      have hlc := (Array.getElem?_eq_some_iff.1 hx5).1
      have HW := Lib.hid (show Below W4.heap.size W4 w5 ∧ ERow w5 W4.heap.size (.slice adv (entM rs).length capv) (entM rs) from ⟨hbW, ERow.base hrow (by first | exact hsz9 | (rw [World.size_alloc]; omega))⟩)
      obtain ⟨M, hM⟩ : ∃ M, (entM rs).length = M := ⟨_, rfl⟩
      rw [hM] at HW ⊢
      have HM := Lib.hid hM
      first | (have hq5 := (hb5.block X9.heap.size (by simp)).trans (blk_new X9 _); have Hq5 := Lib.hid hq5; have hlq := (Array.getElem?_eq_some_iff.1 hq5).1; obtain ⟨z0, z1, z2, z3, z4, z5, z6, z7, z8, z9⟩ := frz10 hq5; obtain ⟨y0, y1, y2, y3, y4, y5, y6, y7, y8, y9⟩ := box10 hq5; clear hq5) | skip
      clear hx5 hrow hbW hb5 hM
      refine hK _ _ ?_
      clear hK K
      refine wpAny_take (i := 4) (v := ?va7) rfl (by kernel_rfl) (by kernel_rfl) (by kernel_rfl) (fun _ _ _ h => nomatch h.1) (Or.inl ⟨by kernel_rfl, ?ha7⟩) ?ra7
      case ha7 => (intro w; go_simp; first | done | (with_reducible rfl))
      refine wpAny_ready (rs := [6]) (by kernel_rfl) (by simp) ?_
      refine AllReady.cons rfl (fun K hK => ?_) AllReady.nil
      go_simp
      refine hK _ _ ?_
      clear hK K
      refine wpAny_done (by kernel_rfl) ?_ _
      first
        | (have hq5 := Hq5.out
           obtain ⟨G, hG⟩ : ∃ G, G = ((((((((((w5.setCell ⟨X9.heap.size, 0, none⟩ (.slice ad2 n2 cap2)).setCell ⟨X9.heap.size, 1, none⟩ (.bool dn2)).setCell ⟨X9.heap.size, 2, none⟩ (.int .i64 fu2)).setCell ⟨X9.heap.size, 3, none⟩ (.int .i64 fa2)).setCell ⟨X9.heap.size, 4, none⟩ (.int .i64 sz2)).setCell ⟨X9.heap.size, 5, none⟩ (.int .u64 fr2)).setCell ⟨X9.heap.size, 6, none⟩ (.int .u64 nx2)).setCell ⟨X9.heap.size, 7, none⟩ (.bool br2)).setCell ⟨X9.heap.size, 8, none⟩ (.slice adv M capv)).setCell ⟨X9.heap.size, 9, none⟩ (.int .i64 most)) := ⟨_, rfl⟩
           rw [← hG]
           have hG2 : G = put10 w5 X9.heap.size (.slice ad2 n2 cap2) (.bool dn2) (.int .i64 fu2) (.int .i64 fa2) (.int .i64 sz2) (.int .u64 fr2) (.int .u64 nx2) (.bool br2) (.slice adv M capv) (.int .i64 most) := hG
           have r := op_endA HW.out hsz9 hq5 (.slice ad2 n2 cap2) (.bool dn2) (.int .i64 fu2) (.int .i64 fa2) (.int .i64 sz2) (.int .u64 fr2) (.int .u64 nx2) (.bool br2) (.slice adv M capv) (.int .i64 most)
           rw [← hG2] at r
           clear hG hG2
           obtain ⟨r1, r2, r3, r4⟩ := r
           exact ⟨rfl, X9.heap.size, adv, capv, r1, r2, (by rw [HM.out]; exact r3), (by rw [HM.out]; exact r4), _, _, _, _, _, rfl⟩)
        | (obtain ⟨r1, r2, r3, r4⟩ := op_endB (.cells (qcells (.slice ad2 n2 cap2) dn2 fu2 fa2 sz2 fr2 nx2 br2 (.slice adv M capv) most) 30 (0, 0)) HW.out
           exact ⟨rfl, w5.heap.size, adv, capv, r1, r2, (by rw [HM.out]; exact r3), (by rw [HM.out]; exact r4), _, _, _, _, _, rfl⟩)
    refine AllReady.cons rfl (fun K hK => ?_) AllReady.nil
    go_simp
    go_at_call 27
    first | refine (entries_any X9 ad3 N cap3 rs HN.out.symm HRA.out (by rw [HN.out]; omega)).mono ?_ | refine (entries_any (X9.alloc (.cells zqueue 30)) ad3 N cap3 rs HN.out.symm HRA1.out (by rw [HN.out]; omega)).mono ?_
    rintro e w5 ⟨v, rfl, hrow, hb5⟩
    obtain ⟨adv, capv, rfl, _, _, _⟩ := hrow.fls
    have hbW : Below W4.heap.size W4 w5 := by first | exact HbX.out.trans (hb5.mono HbX.out.size) | exact (HbX.out.alloc HbX.out.size _).trans (hb5.mono (by rw [World.size_alloc]; have := HbX.out.size; omega))
    have hx5 := (hbW.block _ (by have := Hsz4.out; omega)).trans Hx4.out
    clear c0 c1 c2 c3 c4 c5 c6 c7 hlc
    obtain ⟨c0, c1, c2, c3, c4, c5, c6, c7⟩ := box8 hx5
    have hlc := (Array.getElem?_eq_some_iff.1 hx5).1
    have HW := Lib.hid (show Below W4.heap.size W4 w5 ∧ ERow w5 W4.heap.size (.slice adv (entM rs).length capv) (entM rs) from ⟨hbW, ERow.base hrow (by first | exact hsz9 | (rw [World.size_alloc]; omega))⟩)
    obtain ⟨M, hM⟩ : ∃ M, (entM rs).length = M := ⟨_, rfl⟩
    rw [hM] at HW ⊢
    have HM := Lib.hid hM
    first | (have hq5 := (hb5.block X9.heap.size (by simp)).trans (blk_new X9 _); have Hq5 := Lib.hid hq5; have hlq := (Array.getElem?_eq_some_iff.1 hq5).1; obtain ⟨z0, z1, z2, z3, z4, z5, z6, z7, z8, z9⟩ := frz10 hq5; obtain ⟨y0, y1, y2, y3, y4, y5, y6, y7, y8, y9⟩ := box10 hq5; clear hq5) | skip
    clear hx5 hrow hbW hb5 hM
    refine hK _ _ ?_
    clear hK K
    refine wpAny_ready (rs := [0]) (by kernel_rfl) (by simp) ?_
    refine AllReady.cons rfl (fun K hK => ?_) AllReady.nil
    go_simp
    refine hK _ _ ?_
    clear hK K
    refine wpAny_take (i := 4) (v := ?va8) rfl (by kernel_rfl) (by kernel_rfl) (by kernel_rfl) (fun _ _ _ h => nomatch h.1) (Or.inl ⟨by kernel_rfl, ?ha8⟩) ?ra8
    case ha8 => (intro w; go_simp; first | done | (with_reducible rfl))
    refine wpAny_ready (rs := [6]) (by kernel_rfl) (by simp) ?_
    refine AllReady.cons rfl (fun K hK => ?_) AllReady.nil
    go_simp
    refine hK _ _ ?_
    clear hK K
    refine wpAny_done (by kernel_rfl) ?_ _
    first
      | (have hq5 := Hq5.out
         obtain ⟨G, hG⟩ : ∃ G, G = ((((((((((w5.setCell ⟨X9.heap.size, 0, none⟩ (.slice ad2 n2 cap2)).setCell ⟨X9.heap.size, 1, none⟩ (.bool dn2)).setCell ⟨X9.heap.size, 2, none⟩ (.int .i64 fu2)).setCell ⟨X9.heap.size, 3, none⟩ (.int .i64 fa2)).setCell ⟨X9.heap.size, 4, none⟩ (.int .i64 sz2)).setCell ⟨X9.heap.size, 5, none⟩ (.int .u64 fr2)).setCell ⟨X9.heap.size, 6, none⟩ (.int .u64 nx2)).setCell ⟨X9.heap.size, 7, none⟩ (.bool br2)).setCell ⟨X9.heap.size, 8, none⟩ (.slice adv M capv)).setCell ⟨X9.heap.size, 9, none⟩ (.int .i64 most)) := ⟨_, rfl⟩
         rw [← hG]
         have hG2 : G = put10 w5 X9.heap.size (.slice ad2 n2 cap2) (.bool dn2) (.int .i64 fu2) (.int .i64 fa2) (.int .i64 sz2) (.int .u64 fr2) (.int .u64 nx2) (.bool br2) (.slice adv M capv) (.int .i64 most) := hG
         have r := op_endA HW.out hsz9 hq5 (.slice ad2 n2 cap2) (.bool dn2) (.int .i64 fu2) (.int .i64 fa2) (.int .i64 sz2) (.int .u64 fr2) (.int .u64 nx2) (.bool br2) (.slice adv M capv) (.int .i64 most)
         rw [← hG2] at r
         clear hG hG2
         obtain ⟨r1, r2, r3, r4⟩ := r
         exact ⟨rfl, X9.heap.size, adv, capv, r1, r2, (by rw [HM.out]; exact r3), (by rw [HM.out]; exact r4), _, _, _, _, _, rfl⟩)
      | (obtain ⟨r1, r2, r3, r4⟩ := op_endB (.cells (qcells (.slice ad2 n2 cap2) dn2 fu2 fa2 sz2 fr2 nx2 br2 (.slice adv M capv) most) 30 (0, 0)) HW.out
         exact ⟨rfl, w5.heap.size, adv, capv, r1, r2, (by rw [HM.out]; exact r3), (by rw [HM.out]; exact r4), _, _, _, _, _, rfl⟩)
  case post =>
    rintro e a' w' ⟨rfl, bq, adv, capv, hb, hbq, hxq, hrow, u36, u37, u38, u39, u40, rfl⟩
    obtain ⟨M, hM⟩ : ∃ M, (entM rs).length = M := ⟨_, rfl⟩
    have hrow2 := hrow
    rw [hM] at hxq hrow2
    have hsz5 := hb.size
    replace Hz := Lib.hid ((hb.block _ (by have := Hsz4.out; omega)).trans Hz.out)
    replace HB := Lib.hid (HB.out.trans (hb.mono HB.out.size))
    replace Hlin := Lib.hid (Hlin.out.under hb)
    have Hxq := Lib.hid hxq
    have Hrow := Lib.hid hrow
    have HM := Lib.hid hM
    have Hbq := Lib.hid hbq
    have hzl := (Array.getElem?_eq_some_iff.1 Hz.out).1
    obtain ⟨q0, q1, q2, q3, q4, q5, q6, q7, q8, q9⟩ := box10 hxq
    have hlq := (Array.getElem?_eq_some_iff.1 hxq).1
    clear hb hxq hrow hrow2 hM
    by_cases hmany : (1024 : Int) < (M : Int)
    · have hoq3 : openQ ⟨fs, down, fuse, fault⟩ size most = (zQ, 3) := by rw [Hoq1.out, HM.out, if_pos (by omega)]
      replace Hoq := Lib.hid hoq3
      clear hoq3 Hoq1
      have hly := (Array.getElem?_eq_some_iff.1 Hz.out).1
      obtain ⟨y0, y1, y2, y3, y4, y5, y6, y7, y8, y9⟩ := box10 Hz.out
      obtain ⟨z0, z1, z2, z3, z4, z5, z6, z7, z8, z9⟩ := frz10 Hz.out
      have hput := cell_put10 Hz.out (.slice none 0 0) (.bool false) (.int .i64 0) (.int .i64 0) (.int .i64 0) (.int .u64 0) (.int .u64 0) (.bool false) (.slice none 0 0) (.int .i64 0)
      obtain ⟨p0, p1, p2, p3, p4, p5, p6, p7, p8, p9⟩ := box10 hput
      clear hput
      go_wp2
      refine bodyPost_ret (v := .tuple #[.agg zqueue, .int .i64 3]) (by simp [results, Tryz.results6, go_sem, p0, p1, p2, p3, p4, p5, p6, p7, p8, p9]) rfl ?_
      obtain ⟨G, hG⟩ : ∃ G, G = ((((((((((w'.setCell ⟨w.heap.size + 1, 0, none⟩ (.slice none 0 0)).setCell ⟨w.heap.size + 1, 1, none⟩ (.bool false)).setCell ⟨w.heap.size + 1, 2, none⟩ (.int .i64 0)).setCell ⟨w.heap.size + 1, 3, none⟩ (.int .i64 0)).setCell ⟨w.heap.size + 1, 4, none⟩ (.int .i64 0)).setCell ⟨w.heap.size + 1, 5, none⟩ (.int .u64 0)).setCell ⟨w.heap.size + 1, 6, none⟩ (.int .u64 0)).setCell ⟨w.heap.size + 1, 7, none⟩ (.bool false)).setCell ⟨w.heap.size + 1, 8, none⟩ (.slice none 0 0)).setCell ⟨w.heap.size + 1, 9, none⟩ (.int .i64 0)) := ⟨_, rfl⟩
      rw [← hG]
      have hG2 : Below w.heap.size w G := by rw [hG]; exact below_put10 HB.out (by omega) _ _ _ _ _ _ _ _ _ _
      clear hG
      exact opQ_zero Hoq.out hG2
    · have hoq3 : openQ ⟨fs, down, fuse, fault⟩ size most = (⟨⟨⟨fs2, dn2, fu2, fa2⟩, sz2, fr2, nx2, br2⟩, entM rs, most⟩, 0) := by rw [Hoq1.out, HM.out, if_neg (by omega)]
      have Hoq2 := Lib.hid hoq3
      obtain ⟨adr, capr, hvr, hcr, hcr0, hels⟩ := Hrow.out.fls
      injection hvr with e1 _ e3
      have hq5 : QIn w' ad2 n2 cap2 adv M capv ⟨⟨⟨fs2, dn2, fu2, fa2⟩, sz2, fr2, nx2, br2⟩, entM rs, most⟩ := by
        subst e1 e3
        exact ⟨Hlin.out, ⟨HM.out.symm, by have := HM.out; omega, hcr0, hels⟩, entM_fit rs, Hm.out⟩
      have Hq5 := Lib.hid hq5
      have Hown1 := Lib.hid (show ∀ b, (Value.slice ad2 n2 cap2).ownBlock = some b → b ≠ w.heap.size + 1 from fun b e => by have := Hho.out b e; omega)
      have Hown2 := Lib.hid (show ∀ b, (Value.slice adv M capv).ownBlock = some b → b ≠ w.heap.size + 1 from fun b e => by have := (Hrow.out.lt b (by rw [HM.out]; exact e)).1; have := Hsz4.out; omega)
      clear hoq3 Hoq1 hq5 hels hcr hcr0 e1 e3
      have hly := (Array.getElem?_eq_some_iff.1 Hz.out).1
      obtain ⟨y0, y1, y2, y3, y4, y5, y6, y7, y8, y9⟩ := box10 Hz.out
      obtain ⟨z0, z1, z2, z3, z4, z5, z6, z7, z8, z9⟩ := frz10 Hz.out
      have hput := cell_put10 Hz.out (.slice ad2 n2 cap2) (.bool dn2) (.int .i64 fu2) (.int .i64 fa2) (.int .i64 sz2) (.int .u64 fr2) (.int .u64 nx2) (.bool br2) (.slice adv M capv) (.int .i64 most)
      obtain ⟨p0, p1, p2, p3, p4, p5, p6, p7, p8, p9⟩ := box10 hput
      clear hput
      go_wp2
      refine bodyPost_ret (v := .tuple #[.agg (qcells (.slice ad2 n2 cap2) dn2 fu2 fa2 sz2 fr2 nx2 br2 (.slice adv M capv) most), .int .i64 0]) (by simp [results, Tryz.results6, go_sem, p0, p1, p2, p3, p4, p5, p6, p7, p8, p9]) rfl ?_
      obtain ⟨G, hG⟩ : ∃ G, G = ((((((((((w'.setCell ⟨w.heap.size + 1, 0, none⟩ (.slice ad2 n2 cap2)).setCell ⟨w.heap.size + 1, 1, none⟩ (.bool dn2)).setCell ⟨w.heap.size + 1, 2, none⟩ (.int .i64 fu2)).setCell ⟨w.heap.size + 1, 3, none⟩ (.int .i64 fa2)).setCell ⟨w.heap.size + 1, 4, none⟩ (.int .i64 sz2)).setCell ⟨w.heap.size + 1, 5, none⟩ (.int .u64 fr2)).setCell ⟨w.heap.size + 1, 6, none⟩ (.int .u64 nx2)).setCell ⟨w.heap.size + 1, 7, none⟩ (.bool br2)).setCell ⟨w.heap.size + 1, 8, none⟩ (.slice adv M capv)).setCell ⟨w.heap.size + 1, 9, none⟩ (.int .i64 most)) := ⟨_, rfl⟩
      rw [← hG]
      have hG2 : Below w.heap.size w G := by rw [hG]; exact below_put10 HB.out (by omega) _ _ _ _ _ _ _ _ _ _
      have hGo : ∀ b, b ≠ w.heap.size + 1 → G.heap[b]? = w'.heap[b]? := fun b hb => by rw [hG]; exact put10_other hb _ _ _ _ _ _ _ _ _ _
      have hGz : G.heap.size = w'.heap.size := by rw [hG]; exact put10_size _ _ _ _ _ _ _ _ _ _ _ _
      clear hG
      rw [Hoq2.out]
      exact ⟨hG2, _, _, _, _, _, _, rfl, Hq5.out.same (by omega) (fun b e => hGo b (Hown1.out b e)) (fun b e => hGo b (Hown2.out b e))⟩
end Go.Proofs.YtkhmdofeonlnpaaGreatDoor

/- QUEUE: THE WALK OVER the document's Same. -/
namespace Go.Proofs.YtkhmdofeonlnpaaGreatDoor
open Go.RowKit
set_option maxRecDepth 100000
set_option linter.unusedVariables false
set_option linter.unusedSimpArgs false

end Go.Proofs.YtkhmdofeonlnpaaGreatDoor

/- SEGMENT, MATHEMATICS: what is dropped are the first records. -/
namespace Go.Proofs.YtkhmdofeonlnpaaGreatDoor
open Go.RowKit
set_option maxRecDepth 100000
set_option linter.unusedVariables false
set_option linter.unusedSimpArgs false
theorem eff_rm_sub {fs : List F} {s : SF} : ∀ f ∈ eff fs (rmS s), f ∈ fs := by
  intro f hf
  unfold eff at hf
  rw [if_neg (by first | decide | (simp only [rmS]; decide))] at hf
  cases hq : found fs (rmS s).name with
  | none => rw [hq] at hf; exact hf
  | some g =>
    rw [hq] at hf
    simp only at hf
    rw [if_neg (by first | decide | (simp only [rmS]; decide)), if_neg (by first | decide | (simp only [rmS]; decide)), if_neg (by first | decide | (simp only [rmS]; decide))] at hf
    exact (rem_sub fs _).subset hf
theorem kk_rm {fs : List F} {fr : Nat} {rs : List Rec} {s0 s1 : SF} {t : List SF} (hk : KK fs fr rs) (hl : filesM fs = s0 :: s1 :: t) :
    ref fs (rmS s0) = 0 ∧ filesM (eff fs (rmS s0)) = s1 :: t ∧ ∃ m, s1.n = fr + m ∧ m ≤ rs.length ∧ KK (eff fs (rmS s0)) (fr + m) (rs.drop m) := by
  obtain ⟨h1, h2⟩ := files_rm hk.R (l := []) (r := s1 :: t) hl
  replace h2 : filesM (eff fs (rmS s0)) = s1 :: t := h2
  refine ⟨h1, h2, ?_⟩
  have hrd := hk.rd
  rw [hl] at hrd
  have hfm := hk.fm
  rw [hl] at hfm
  have e0 : s0.n = fr := hfm
  by_cases ht : sumL (framesL s0.f.data fr) < s0.f.data.size
  · rw [rdM_torn e0 ht] at hrd; cases congrArg RD.cut hrd
  rw [rdM_on e0 ht] at hrd
  have e1 : s1.n = fr + (framesL s0.f.data fr).length := Classical.byContradiction fun hn => by
    rw [rdM_end hn] at hrd; cases congrArg RD.rest hrd
  have q1 := congrArg RD.rs hrd
  have q2 := congrArg RD.nx hrd
  have q3 := congrArg RD.cut hrd
  have q4 := congrArg RD.rest hrd
  simp only at q1 q2 q3 q4
  obtain ⟨r, hr⟩ : ∃ r, rdM (fr + (framesL s0.f.data fr).length) (s1 :: t) = r := ⟨_, rfl⟩
  have hlen := rdM_len (s1 :: t) (fr + (framesL s0.f.data fr).length)
  rw [hr] at q1 q2 q3 q4 hlen
  obtain ⟨r1, r2, r3, r4⟩ := r
  simp only at q1 q2 q3 q4 hlen
  subst q3 q4
  have hdrop : rs.drop (framesL s0.f.data fr).length = r1 := by rw [← q1]; simp
  refine ⟨(framesL s0.f.data fr).length, e1, by rw [← q1, List.length_append]; omega, ?_, ?_, ?_, ?_, ?_⟩
  · exact right_eff hk.R ⟨by first | decide | (simp only [rmS]; decide), by first | decide | (simp only [rmS]; decide)⟩ h1
  · exact fun f hf => hk.lg f (eff_rm_sub f hf)
  · exact fun f hf => hk.sy f (eff_rm_sub f hf)
  · rw [h2, hr, hdrop, hlen]
  · rw [h2]; exact e1
theorem drop_run : ∀ (l : List SF) (fs : List F) (fr : Nat) (rs : List Rec) (size f0 nx q : Int), filesM fs = l → KK fs fr rs →
    ∃ fs2 gone, doS ⟨⟨fs, false, -1, -1⟩, size, f0, nx, false⟩ ((l.take (cutN l q)).map rmS) = (⟨⟨fs2, false, -1, -1⟩, size, f0, nx, false⟩, 0) ∧ KK fs2 (fr + gone) (rs.drop gone) ∧
      gone ≤ rs.length ∧ (gone = 0 ∨ ((fr + gone : Nat) : Int) ≤ q) ∧ ((l = [] ∧ gone = 0) ∨ ∃ s, l[cutN l q]? = some s ∧ s.n = fr + gone)
  | [], fs, fr, rs, size, f0, nx, q, hl, hk => ⟨fs, 0, by simp [cutN, doS], by simpa using hk, Nat.zero_le _, .inl rfl, .inl ⟨rfl, rfl⟩⟩
  | [s], fs, fr, rs, size, f0, nx, q, hl, hk => ⟨fs, 0, by simp [cutN, doS], by simpa using hk, Nat.zero_le _, .inl rfl, .inr ⟨s, by simp [cutN], by have := hk.fm; rw [hl] at this; exact this⟩⟩
  | s0 :: s1 :: t, fs, fr, rs, size, f0, nx, q, hl, hk => by
    by_cases hq : (s1.n : Int) ≤ q
    · obtain ⟨h1, h2, m, h3, h4, h5⟩ := kk_rm hk hl
      have hcut : cutN (s0 :: s1 :: t) q = cutN (s1 :: t) q + 1 := by rw [cutN, if_pos hq]
      obtain ⟨fs2, g, i1, i2, i3, i4, i5⟩ := drop_run (s1 :: t) (eff fs (rmS s0)) (fr + m) (rs.drop m) size f0 nx q h2 h5
      refine ⟨fs2, m + g, ?_, ?_, ?_, ?_, ?_⟩
      · rw [hcut, List.take_succ_cons, List.map_cons]
        unfold doS
        rcases doo_mend (d := ⟨fs, false, -1, -1⟩) hk.R rfl (m := rmS s0) (.inr rfl) h1 with ⟨c, _⟩ | ⟨_, c, _⟩ | ⟨_, _, e⟩
        · simp only at c; omega
        · simp only at c; omega
        · rw [e, if_pos rfl]
          exact i1
      · rw [List.drop_drop] at i2
        rw [← Nat.add_assoc]; exact i2
      · rw [List.length_drop] at i3; omega
      · right
        rcases i4 with e | e
        · rw [e, Nat.add_zero, ← h3]; exact hq
        · rw [← Nat.add_assoc]; exact e
      · right
        rcases i5 with ⟨e, _⟩ | ⟨s, e1, e2⟩
        · cases e
        · exact ⟨s, by rw [hcut, List.getElem?_cons_succ]; exact e1, by omega⟩
    · have hcut : cutN (s0 :: s1 :: t) q = 0 := by rw [cutN, if_neg hq]
      refine ⟨fs, 0, by rw [hcut]; simp [doS], by simpa using hk, Nat.zero_le _, .inl rfl, .inr ⟨s0, by rw [hcut]; rfl, ?_⟩⟩
      have := hk.fm
      rw [hl] at this
      exact this
/-- a log of records from a number on -/
abbrev klf (fs : List F) (fr : Nat) (rs : List Rec) (size nx : Int) : L := ⟨⟨fs, false, -1, -1⟩, size, (fr : Int), nx, false⟩
end Go.Proofs.YtkhmdofeonlnpaaGreatDoor

/- QUEUE, MATHEMATICS: a queue whose log is whole; its steps, and what a crash leaves. -/
namespace Go.Proofs.YtkhmdofeonlnpaaGreatDoor
open Go.RowKit
set_option maxRecDepth 100000
set_option linter.unusedVariables false
set_option linter.unusedSimpArgs false

theorem inM_free {nx : Nat} : ∀ {es : List E} {fr : Nat}, inM nx fr (es.map freeE) ↔ inM nx fr es
  | [], _ => Iff.rfl
  | e :: t, fr => by
    show (fr ≤ e.seq ∧ e.seq < nx ∧ e.data.size ≤ 65535 ∧ inM nx (e.seq + 1) (t.map freeE)) ↔ _
    rw [inM_free]; rfl
/-- a queue whose log is whole -/
structure QG (q : Q) (fs : List F) (fr : Nat) (rs : List Rec) (fuse fault size : Int) (K : Nat) : Prop where
  l : q.l = klr fs fr rs fuse fault size
  kk : KK fs fr rs
  es : q.es.map freeE = entM rs
  sz : 1 ≤ size ∧ size ≤ 262144
  mo : 1 ≤ q.most ∧ q.most ≤ 1024
  ln : q.es.length ≤ 1024
  fr1 : 1 ≤ fr
  bd : fr + rs.length ≤ K
theorem QG.inE {q : Q} {fs : List F} {fr : Nat} {rs : List Rec} {fu fa size : Int} {K : Nat} (h : QG q fs fr rs fu fa size K) : inM (fr + rs.length) fr q.es := by
  have := ent_in (kk_row h.kk)
  rw [← h.es] at this
  exact inM_free.1 this
theorem QG.R {q : Q} {fs : List F} {fr : Nat} {rs : List Rec} {fu fa size : Int} {K : Nat} (h : QG q fs fr rs fu fa size K) (hK : K ≤ 4611686018427387904) : QRight q := by
  have hi := h.inE
  have hb := h.bd
  refine ⟨?_, h.mo, h.ln, ?_⟩
  · rw [h.l]
    refine ⟨h.kk.R, h.sz, ?_, ?_⟩
    · show (fr : Int) ≤ ((fr + rs.length : Nat) : Int); omega
    · show ((fr + rs.length : Nat) : Int) ≤ _; omega
  · rw [h.l]
    show inM (((fr + rs.length : Nat) : Int)).toNat ((fr : Int)).toNat q.es
    simp only [Int.toNat_natCast]
    exact hi
theorem QG.mono {q : Q} {fs : List F} {fr : Nat} {rs : List Rec} {fu fa size : Int} {K K2 : Nat} (h : QG q fs fr rs fu fa size K) (hK : K ≤ K2) : QG q fs fr rs fu fa size K2 :=
  ⟨h.l, h.kk, h.es, h.sz, h.mo, h.ln, h.fr1, Nat.le_trans h.bd hK⟩
theorem map_set_free {es : List E} {i : Nat} {e e2 : E} (he : es[i]? = some e) (h : freeE e2 = freeE e) : (es.set i e2).map freeE = es.map freeE := by
  rw [List.map_set, h]
  apply List.ext_getElem?
  intro j
  rw [List.getElem?_set]
  split
  · rename_i hj
    subst hj
    have hl := (List.getElem?_eq_some_iff.1 he).1
    rw [if_pos (by simpa using hl), List.getElem?_map, he]
    rfl
  · rfl
/-- the same entries, other ones leased -/
theorem QG.set {q : Q} {fs : List F} {fr : Nat} {rs : List Rec} {fu fa size : Int} {K : Nat} (h : QG q fs fr rs fu fa size K) {i : Nat} {e e2 : E} (he : q.es[i]? = some e) (h2 : freeE e2 = freeE e) : QG ⟨q.l, q.es.set i e2, q.most⟩ fs fr rs fu fa size K :=
  ⟨h.l, h.kk, by show (q.es.set i e2).map freeE = _; rw [map_set_free he h2]; exact h.es, h.sz, h.mo, by show (q.es.set i e2).length ≤ _; rw [set_len]; exact h.ln, h.fr1, h.bd⟩
theorem erase_filter : ∀ {es : List E} {i : Nat} {e : E}, es[i]? = some e → es.Pairwise (fun a b => a.seq < b.seq) → es.eraseIdx i = es.filter (fun x => decide (x.seq ≠ e.seq))
  | x :: t, 0, e, hi, hp => by
    simp at hi
    subst hi
    rw [List.pairwise_cons] at hp
    rw [List.eraseIdx_cons_zero, List.filter_cons_of_neg (by simp)]
    refine (List.filter_eq_self.2 fun y hy => ?_).symm
    have := hp.1 y hy
    simp; omega
  | x :: t, i + 1, e, hi, hp => by
    rw [List.pairwise_cons] at hp
    have hi' : t[i]? = some e := by simpa using hi
    have hx := hp.1 e (List.mem_of_getElem? hi')
    rw [List.eraseIdx_cons_succ, List.filter_cons_of_pos (by simp; omega), erase_filter hi' hp.2]
theorem map_filter_free (es : List E) (s : Nat) : (es.filter (fun x => decide (x.seq ≠ s))).map freeE = (es.map freeE).filter (fun x => decide (x.seq ≠ s)) := by
  rw [List.filter_map]
  rfl
/-- what was refused for want of files broke the log -/
theorem app_full_broken {l : L} {d : ByteArray} {r : L × Int} (hr : appM l d = r) (h8 : r.2 = 8) : r.1.broken = true := by
  subst hr
  unfold appM at h8 ⊢
  split at h8
  · simp at h8
  split at h8
  · simp at h8
  rename_i c1 c2
  rw [if_neg c1, if_neg c2]
  unfold addM at h8 ⊢
  split at h8
  · rename_i c3
    rw [if_pos c3]
    unfold add2 at h8 ⊢
    split at h8
    · simp at h8
    · rename_i c4
      rw [if_neg c4]
      exact (doS_ends _ _).2 c4
  · rename_i c3
    rw [if_neg c3]
    unfold add1 at c3 ⊢
    split at c3
    · exact absurd rfl c3
    · rename_i c4
      rw [if_neg c4]
      exact (doS_ends _ _).2 c3
/-- a put that has room -/
theorem qg_put {q : Q} {fs : List F} {fr : Nat} {rs : List Rec} {size : Int} {K : Nat} {d : ByteArray} (h : QG q fs fr rs (-1) (-1) size K) (hK : K < 4611686018427387904) (hm : ¬ q.most ≤ (q.es.length : Int)) (hd : ¬ 65535 < d.size) :
    ((putM q d).2.2 = 0 ∧ ∃ fs2 h1 h2, QG (putM q d).1 fs2 fr (rs ++ [(⟨fr + rs.length, putB d, h1, h2⟩ : Rec)]) (-1) (-1) size (K + 1) ∧ fs2.length ≤ fs.length + 1 ∧ (putM q d).1.es = q.es ++ [⟨fr + rs.length, d, false⟩] ∧ (putM q d).2.1 = ⟨fr + rs.length, ⟨#[]⟩, false⟩ ∧ (putM q d).1.most = q.most) ∨
    ((putM q d).2.2 = 8 ∧ fs.length = 64 ∧ (putM q d).1.l.broken = true ∧ (putM q d).2.1 = zE) := by
  have hb := h.bd
  have hps := put_size d
  have hF := app_facts (l := q.l) (d := putB d) (h.R (by omega)).1 (by rw [h.l]; exact ⟨by show (_ : Int) ≤ -1; omega, by show (-1 : Int) ≤ _; omega⟩) (by rw [h.l]; exact ⟨by show (_ : Int) ≤ -1; omega, by show (-1 : Int) ≤ _; omega⟩)
  have hA := app_kkr (d := putB d) (by omega) h.kk h.sz (show Num (-1) by unfold Num; omega) (show Num (-1) by unfold Num; omega)
  rw [h.l] at hF
  have hl : appM q.l (putB d) = appM (klr fs fr rs (-1) (-1) size) (putB d) := by rw [h.l]
  have hnx : q.l.nx.toNat = fr + rs.length := by rw [h.l]; exact Int.toNat_natCast _
  unfold putM
  rw [if_neg hm, if_neg hd, hl, hnx]
  obtain ⟨r, hr⟩ : ∃ r, appM (klr fs fr rs (-1) (-1) size) (putB d) = r := ⟨_, rfl⟩
  rw [hr] at hA hF ⊢
  rcases hA.full (by omega) rfl rfl with h0 | ⟨h8, h64⟩
  · left
    obtain ⟨h1, h2, hk, he⟩ := hA.ok h0
    obtain ⟨f1, f2⟩ := hA.free h0 rfl rfl
    rw [if_pos h0]
    refine ⟨rfl, r.1.d.files, h1, h2, ⟨?_, hk, ?_, h.sz, h.mo, ?_, h.fr1, ?_⟩, hA.len, rfl, rfl, rfl⟩
    · show r.1 = _
      rw [he, f1, f2]
      simp
    · show (q.es ++ ([⟨fr + rs.length, d, false⟩] : List E)).map freeE = _
      rw [List.map_append, h.es, entM_put]
      rfl
    · show (q.es ++ [_]).length ≤ 1024
      have := h.mo
      rw [List.length_append, List.length_singleton]; omega
    · rw [List.length_append, List.length_singleton]; omega
  · right
    have h0 : ¬ r.2 = 0 := by omega
    rw [if_neg h0]
    refine ⟨h8, h64, ?_, rfl⟩
    show r.1.broken = true
    exact app_full_broken hr h8
theorem eff_rm_len {fs : List F} {s : SF} : (eff fs (rmS s)).length ≤ fs.length := by
  unfold eff
  rw [if_neg (by first | decide | (simp only [rmS]; decide))]
  cases found fs (rmS s).name with
  | none => exact Nat.le_refl _
  | some f =>
    simp only
    rw [if_neg (by first | decide | (simp only [rmS]; decide)), if_neg (by first | decide | (simp only [rmS]; decide)), if_neg (by first | decide | (simp only [rmS]; decide))]
    exact (rem_sub _ _).length_le
/-- files that are taken away, whatever the disk does -/
theorem drop_some : ∀ (l : List SF) (fs : List F) (fr : Nat) (rs : List Rec) (size f0 nx q fu fa : Int) (br : Bool), filesM fs = l → KK fs fr rs →
    ∃ gone, KK (doS ⟨⟨fs, false, fu, fa⟩, size, f0, nx, br⟩ ((l.take (cutN l q)).map rmS)).1.d.files (fr + gone) (rs.drop gone) ∧ gone ≤ rs.length ∧ (gone = 0 ∨ ((fr + gone : Nat) : Int) ≤ q) ∧ (doS ⟨⟨fs, false, fu, fa⟩, size, f0, nx, br⟩ ((l.take (cutN l q)).map rmS)).1.d.files.length ≤ fs.length
  | [], fs, fr, rs, size, f0, nx, q, fu, fa, br, hl, hk => ⟨0, by simpa [cutN, doS] using hk, Nat.zero_le _, .inl rfl, by simp [cutN, doS]⟩
  | [s], fs, fr, rs, size, f0, nx, q, fu, fa, br, hl, hk => ⟨0, by simpa [cutN, doS] using hk, Nat.zero_le _, .inl rfl, by simp [cutN, doS]⟩
  | s0 :: s1 :: t, fs, fr, rs, size, f0, nx, q, fu, fa, br, hl, hk => by
    by_cases hq : (s1.n : Int) ≤ q
    · obtain ⟨h1, h2, m, h3, h4, h5⟩ := kk_rm hk hl
      have hcut : cutN (s0 :: s1 :: t) q = cutN (s1 :: t) q + 1 := by rw [cutN, if_pos hq]
      rw [hcut, List.take_succ_cons, List.map_cons]
      unfold doS
      rcases doo_mend (d := ⟨fs, false, fu, fa⟩) hk.R rfl (m := rmS s0) (.inr rfl) h1 with ⟨c, e⟩ | ⟨_, c, e⟩ | ⟨_, _, e⟩
      · rw [e, if_neg (by simp)]
        exact ⟨0, by simpa using hk, Nat.zero_le _, .inl rfl, Nat.le_refl _⟩
      · rw [e, if_neg (by simp)]
        exact ⟨0, by simpa using hk, Nat.zero_le _, .inl rfl, Nat.le_refl _⟩
      · rw [e, if_pos rfl]
        obtain ⟨g, i2, i3, i4, i5⟩ := drop_some (s1 :: t) (eff fs (rmS s0)) (fr + m) (rs.drop m) size f0 nx q (dec fu) (dec fa) br h2 h5
        refine ⟨m + g, ?_, ?_, ?_, Nat.le_trans i5 eff_rm_len⟩
        · rw [List.drop_drop] at i2
          rw [← Nat.add_assoc]
          exact i2
        · rw [List.length_drop] at i3; omega
        · right
          rcases i4 with e | e
          · rw [e, Nat.add_zero, ← h3]; exact hq
          · rw [← Nat.add_assoc]; exact e
    · have hcut : cutN (s0 :: s1 :: t) q = 0 := by rw [cutN, if_neg hq]
      rw [hcut]
      exact ⟨0, by simpa [doS] using hk, Nat.zero_le _, .inl rfl, by simp [doS]⟩
theorem drop_kkr {fs : List F} {fr : Nat} {rs : List Rec} {size q : Int} (hk : KK fs fr rs) :
    ∃ fs2 gone, dropM (klr fs fr rs (-1) (-1) size) q = (⟨⟨fs2, false, -1, -1⟩, size, ((fr + gone : Nat) : Int), ((fr + rs.length : Nat) : Int), false⟩, 0) ∧ KK fs2 (fr + gone) (rs.drop gone) ∧ gone ≤ rs.length ∧ (gone = 0 ∨ ((fr + gone : Nat) : Int) ≤ q) ∧ fs2.length ≤ fs.length := by
  have hlen := (drop_some (filesM fs) fs fr rs size (fr : Int) ((fr + rs.length : Nat) : Int) q (-1) (-1) false rfl hk)
  obtain ⟨_, _, _, _, hlen⟩ := hlen
  obtain ⟨fs2, g, h1, h2, h3, h4, h5⟩ := drop_run (filesM fs) fs fr rs size (fr : Int) ((fr + rs.length : Nat) : Int) q rfl hk
  rw [h1] at hlen
  refine ⟨fs2, g, ?_, h2, h3, h4, hlen⟩
  have hd : dropS (klr fs fr rs (-1) (-1) size) q = (⟨⟨fs2, false, -1, -1⟩, size, (fr : Int), ((fr + rs.length : Nat) : Int), false⟩, 0) := h1
  unfold dropM
  rw [hd, if_pos rfl]
  rcases h5 with ⟨e, rfl⟩ | ⟨s, e1, e2⟩
  · have : (filesM (klr fs fr rs (-1) (-1) size).d.files)[cutN (filesM (klr fs fr rs (-1) (-1) size).d.files) q]? = none := by
      show (filesM fs)[cutN (filesM fs) q]? = none
      rw [e]; rfl
    rw [this]
    rfl
  · have : (filesM (klr fs fr rs (-1) (-1) size).d.files)[cutN (filesM (klr fs fr rs (-1) (-1) size).d.files) q]? = some s := e1
    rw [this]
    simp only [e2]
/-- an ack of what is leased -/
theorem qg_ack {q : Q} {fs : List F} {fr : Nat} {rs : List Rec} {size : Int} {K s i : Nat} {e : E} (h : QG q fs fr rs (-1) (-1) size K) (hK : K < 4611686018427387904) (hh : heldAt q.es s = some i) (he : q.es[i]? = some e) (hes : e.seq = s) :
    ((ackM q s).2.2 = 0 ∧ ∃ fs2 fr2 rs2, QG (ackM q s).1 fs2 fr2 rs2 (-1) (-1) size (K + 1) ∧ fs2.length ≤ fs.length + 1 ∧ (ackM q s).1.es = q.es.eraseIdx i ∧ (ackM q s).2.1 = zE ∧ (ackM q s).1.most = q.most) ∨
    ((ackM q s).2.2 = 8 ∧ fs.length = 64 ∧ (ackM q s).1.l.broken = true ∧ (ackM q s).2.1 = zE ∧ (ackM q s).1.es = q.es) := by
  have hb := h.bd
  have hps := ack_size s
  have hin := h.inE
  have hseq := (inM_lt hin (List.mem_of_getElem? he)).1
  have nu : Num (-1) := by unfold Num; omega
  have hA := app_kkr (d := ackB s) (by omega) h.kk h.sz nu nu
  have hl : appM q.l (ackB s) = appM (klr fs fr rs (-1) (-1) size) (ackB s) := by rw [h.l]
  have hF := app_facts (l := q.l) (d := ackB s) (h.R (by omega)).1 (by rw [h.l]; exact nu) (by rw [h.l]; exact nu)
  rw [h.l] at hF
  unfold ackM
  rw [hh]
  simp only
  rw [hl]
  obtain ⟨r, hr⟩ : ∃ r, appM (klr fs fr rs (-1) (-1) size) (ackB s) = r := ⟨_, rfl⟩
  rw [hr] at hA hF ⊢
  rcases hA.full (by omega) rfl rfl with h0 | ⟨h8, h64⟩
  · left
    obtain ⟨h1, h2, hk, hre⟩ := hA.ok h0
    obtain ⟨f1, f2⟩ := hA.free h0 rfl rfl
    rw [if_pos h0]
    have hrl : r.1 = klr r.1.d.files fr (rs ++ [(⟨fr + rs.length, ackB s, h1, h2⟩ : Rec)]) (-1) (-1) size := by
      rw [hre, f1, f2]; simp
    have hRr : LRight r.1 := hF.R
    obtain ⟨fs1, hfs1⟩ : ∃ fs1, r.1.d.files = fs1 := ⟨_, rfl⟩
    have hlen1 := hA.len
    rw [hfs1] at hrl hk hlen1
    rw [hrl]
    rw [hrl] at hRr
    obtain ⟨fs2, g, d1, d2, d3, d4, d5⟩ := drop_kkr (size := size) (q := firstM2 (klr fs1 fr (rs ++ [(⟨fr + rs.length, ackB s, h1, h2⟩ : Rec)]) (-1) (-1) size) (q.es.eraseIdx i)) hk
    have hq1 : firstM2 (klr fs1 fr (rs ++ [(⟨fr + rs.length, ackB s, h1, h2⟩ : Rec)]) (-1) (-1) size) (q.es.eraseIdx i) ≤ (klr fs1 fr (rs ++ [(⟨fr + rs.length, ackB s, h1, h2⟩ : Rec)]) (-1) (-1) size).nx := by
      unfold firstM2
      cases hx : q.es.eraseIdx i with
      | nil => exact Int.le_refl _
      | cons x t =>
        have := inM_lt (inM_erase i hin) (x := x) (by rw [hx]; exact List.mem_cons_self)
        show (x.seq : Int) ≤ ((fr + (rs ++ [_]).length : Nat) : Int)
        rw [List.length_append, List.length_singleton]; omega
    have hdr : drM (klr fs1 fr (rs ++ [(⟨fr + rs.length, ackB s, h1, h2⟩ : Rec)]) (-1) (-1) size) (firstM2 (klr fs1 fr (rs ++ [(⟨fr + rs.length, ackB s, h1, h2⟩ : Rec)]) (-1) (-1) size) (q.es.eraseIdx i)) = (klr fs2 (fr + g) ((rs ++ [(⟨fr + rs.length, ackB s, h1, h2⟩ : Rec)]).drop g) (-1) (-1) size, 0) := by
      unfold drM
      rw [if_pos hRr]
      unfold chM
      rw [if_neg (by simp)]
      show cutM _ _ = _
      unfold cutM
      rw [if_neg (by omega), d1]
      have e1 : fr + g + ((rs ++ [(⟨fr + rs.length, ackB s, h1, h2⟩ : Rec)]).drop g).length = fr + (rs ++ [(⟨fr + rs.length, ackB s, h1, h2⟩ : Rec)]).length := by rw [List.length_drop]; omega
      show _ = ((⟨⟨fs2, false, -1, -1⟩, size, ((fr + g : Nat) : Int), ((fr + g + ((rs ++ [(⟨fr + rs.length, ackB s, h1, h2⟩ : Rec)]).drop g).length : Nat) : Int), false⟩ : L), (0 : Int))
      rw [e1]
    rw [hdr]
    have hent : (q.es.eraseIdx i).map freeE = entM (rs ++ [(⟨fr + rs.length, ackB s, h1, h2⟩ : Rec)]) := by
      rw [erase_filter he (inM_iff.1 hin).2, map_filter_free, h.es, entM_ack rs _ s (by omega), hes]
    have hent2 : entM ((rs ++ [(⟨fr + rs.length, ackB s, h1, h2⟩ : Rec)]).drop g) = entM (rs ++ [(⟨fr + rs.length, ackB s, h1, h2⟩ : Rec)]) := by
      refine entM_drop (kk_row hk) fun x hx => ?_
      rcases d4 with e0 | e0
      · have := (ent_bd (kk_row hk) hx).1
        omega
      · rw [← hent] at hx
        obtain ⟨y, hy, rfl⟩ := List.mem_map.1 hx
        show fr + g ≤ y.seq
        cases hz : q.es.eraseIdx i with
        | nil => rw [hz] at hy; cases hy
        | cons z t =>
          have hi2 := inM_erase i hin
          rw [hz] at hi2 hy e0
          have h3 : (z.seq : Int) = firstM2 (klr fs1 fr (rs ++ [(⟨fr + rs.length, ackB s, h1, h2⟩ : Rec)]) (-1) (-1) size) (z :: t) := rfl
          rw [← h3] at e0
          rcases List.mem_cons.1 hy with w | w
          · subst w; omega
          · have := inM_ge hi2.2.2.2 w
            omega
    refine ⟨rfl, fs2, fr + g, _, ⟨rfl, d2, ?_, h.sz, h.mo, ?_, ?_, ?_⟩, by omega, rfl, rfl, rfl⟩
    · show (q.es.eraseIdx i).map freeE = _
      rw [hent, hent2]
    · have := (List.eraseIdx_sublist q.es i).length_le
      have := h.ln
      show (q.es.eraseIdx i).length ≤ _
      omega
    · have := h.fr1; omega
    · rw [List.length_append, List.length_singleton] at d3
      rw [List.length_drop, List.length_append, List.length_singleton]; omega
  · right
    have h0 : ¬ r.2 = 0 := by omega
    rw [if_neg h0]
    refine ⟨h8, h64, ?_, rfl, rfl⟩
    show r.1.broken = true
    exact app_full_broken hr h8
end Go.Proofs.YtkhmdofeonlnpaaGreatDoor

/- QUEUE, MATHEMATICS: what the laws do ahead of all. -/
namespace Go.Proofs.YtkhmdofeonlnpaaGreatDoor
open Go.RowKit
set_option maxRecDepth 100000
set_option linter.unusedVariables false
set_option linter.unusedSimpArgs false

abbrev aB : ByteArray := ⟨#[97]⟩
abbrev bB : ByteArray := ⟨#[98]⟩
abbrev q0Q (size most : Int) : Q := ⟨⟨⟨[], false, -1, -1⟩, size, 1, 1, false⟩, [], most⟩
theorem qg_nil {size most : Int} (hs : 1 ≤ size ∧ size ≤ 262144) (hm : 1 ≤ most ∧ most ≤ 1024) : QG (q0Q size most) [] 1 [] (-1) (-1) size 1 :=
  ⟨rfl, kk_nil, rfl, hs, hm, by simp, Nat.le_refl _, Nat.le_refl _⟩
theorem openQ_nil {size most : Int} (hs : 1 ≤ size ∧ size ≤ 262144) (hm : 1 ≤ most ∧ most ≤ 1024) : openQ ⟨[], false, -1, -1⟩ size most = (q0Q size most, 0) := by
  unfold openQ
  rw [if_neg (fun h => h right_nil), if_neg (fun h => h hm), open_kk kk_nil hs]
  rfl
/-- a queue that is whole, opened again -/
theorem QG.again {q : Q} {fs : List F} {fr : Nat} {rs : List Rec} {size most : Int} {K : Nat} (h : QG q fs fr rs (-1) (-1) size K) (hm : 1 ≤ most ∧ most ≤ 1024) : openQ q.l.d size most = (⟨klr fs fr rs (-1) (-1) size, entM rs, most⟩, 0) := by
  have hd : q.l.d = ⟨fs, false, -1, -1⟩ := by rw [h.l]
  rw [hd]
  unfold openQ
  rw [if_neg (fun hn => hn h.kk.R), if_neg (fun hn => hn hm), open_kkr h.kk h.sz]
  have hl : ¬ 1024 < (entM rs).length := by
    have h1 := congrArg List.length h.es
    rw [List.length_map] at h1
    have h2 := h.ln
    omega
  simp only [ne_eq, not_true_eq_false, if_false, if_neg hl]
theorem QG.br {q : Q} {fs : List F} {fr : Nat} {rs : List Rec} {fu fa size : Int} {K : Nat} (h : QG q fs fr rs fu fa size K) : q.l.broken = false := by rw [h.l]
theorem QG.ans {q : Q} {fs : List F} {fr : Nat} {rs : List Rec} {fu fa size : Int} {K : Nat} (h : QG q fs fr rs fu fa size K) (hK : K ≤ 4611686018427387904) (s : QS) : ansQ q s = stM q s := by
  unfold ansQ
  rw [if_pos (h.R hK)]
  unfold chQ
  rw [if_neg (by rw [h.br]; simp)]
end Go.Proofs.YtkhmdofeonlnpaaGreatDoor

/- QUEUE: a queue in a variable of a law's (for the laws' walks; lives itself is not walked yet). -/
namespace Go.Proofs.YtkhmdofeonlnpaaGreatDoor
open Go.RowKit
set_option maxRecDepth 100000
set_option linter.unusedVariables false
set_option linter.unusedSimpArgs false

/-- a queue in a variable of a law's -/
structure QV (w W : World) (g : Nat) (q : Q) (ad : Option Addr) (n cap : Nat) (be : Option Addr) (m cp : Nat) : Prop where
  h : W.heap[g]? = some (.cells (q.cells (.slice ad n cap) (.slice be m cp)) 30 (0, 0))
  i : QIn W ad n cap be m cp q
  b : Below w.heap.size w W
  g : w.heap.size ≤ g
theorem QV.under {w W W' : World} {g : Nat} {q : Q} {ad : Option Addr} {n cap : Nat} {be : Option Addr} {m cp : Nat} (h : QV w W g q ad n cap be m cp) (hb : Below W.heap.size W W') : QV w W' g q ad n cap be m cp :=
  ⟨(hb.block _ (Array.getElem?_eq_some_iff.1 h.h).1).trans h.h, h.i.under hb, h.b.trans (hb.mono h.b.size), h.g⟩
/-- an answer is put into the variable -/
theorem QV.put {w W W' : World} {g : Nat} {q q2 : Q} {ad : Option Addr} {n cap : Nat} {be : Option Addr} {m cp : Nat} (h : QV w W g q ad n cap be m cp) (hb : Below W.heap.size W W') {ad2 : Option Addr} {n2 cap2 : Nat} {be2 : Option Addr} {m2 cp2 : Nat} (hq : QIn W' ad2 n2 cap2 be2 m2 cp2 q2)
    (h1 : ∀ b, (Value.slice ad2 n2 cap2).ownBlock = some b → W.heap.size ≤ b) (h2 : ∀ b, (Value.slice be2 m2 cp2).ownBlock = some b → W.heap.size ≤ b) {G : World} (hG : G = put10 W' g (.slice ad2 n2 cap2) (.bool q2.l.d.down) (.int .i64 q2.l.d.fuse) (.int .i64 q2.l.d.fault) (.int .i64 q2.l.size) (.int .u64 q2.l.fr) (.int .u64 q2.l.nx) (.bool q2.l.broken) (.slice be2 m2 cp2) (.int .i64 q2.most)) : QV w G g q2 ad2 n2 cap2 be2 m2 cp2 := by
  have hl := (Array.getElem?_eq_some_iff.1 h.h).1
  have hx := (hb.block _ hl).trans h.h
  subst hG
  have hbG := below_put10 (h.b.trans (hb.mono h.b.size)) h.g (.slice ad2 n2 cap2) (.bool q2.l.d.down) (.int .i64 q2.l.d.fuse) (.int .i64 q2.l.d.fault) (.int .i64 q2.l.size) (.int .u64 q2.l.fr) (.int .u64 q2.l.nx) (.bool q2.l.broken) (.slice be2 m2 cp2) (.int .i64 q2.most)
  refine ⟨cell_put10 hx _ _ _ _ _ _ _ _ _ _, hq.same (by rw [put10_size]; exact Nat.le_refl _) (fun b e => put10_other (by have := h1 b e; omega) _ _ _ _ _ _ _ _ _ _) (fun b e => put10_other (by have := h2 b e; omega) _ _ _ _ _ _ _ _ _ _), hbG, h.g⟩
end Go.Proofs.YtkhmdofeonlnpaaGreatDoor

/- QUEUE: THE WALK OVER lives. -/
namespace Go.Proofs.YtkhmdofeonlnpaaGreatDoor
open Go.RowKit
set_option maxRecDepth 100000
set_option linter.unusedVariables false
set_option linter.unusedSimpArgs false

end Go.Proofs.YtkhmdofeonlnpaaGreatDoor

/- QUEUE, MATHEMATICS: the entries behind a step stand in order. -/
namespace Go.Proofs.YtkhmdofeonlnpaaGreatDoor
open Go.RowKit
set_option maxRecDepth 100000
set_option linter.unusedVariables false
set_option linter.unusedSimpArgs false

theorem qright_len {q : Q} (h : QRight q) : q.l.d.files.length ≤ 1000 ∧ q.es.length ≤ 1024 := ⟨by have := h.1.1.1; omega, h.2.2.1⟩
def SortE (es : List E) : Prop := es.Pairwise fun a b => a.seq < b.seq
theorem sort_in {nx fr : Nat} {es : List E} (h : inM nx fr es) : SortE es := (inM_iff.1 h).2
/-- a cell's value -/
def At1 (w : World) (g o : Nat) (v : Value) : Prop := g < w.heap.size ∧ w.cell? ⟨g, o, none⟩ = some v
theorem At1.under {w w' : World} {g o : Nat} {v : Value} (h : At1 w g o v) (hb : Below w.heap.size w w') : At1 w' g o v := ⟨Nat.lt_of_lt_of_le h.1 hb.size, (hb.cell (p := ⟨g, o, none⟩) h.1).trans h.2⟩
end Go.Proofs.YtkhmdofeonlnpaaGreatDoor

/- QUEUE, MATHEMATICS: a lease, released. -/
namespace Go.Proofs.YtkhmdofeonlnpaaGreatDoor
open Go.RowKit
set_option maxRecDepth 100000
set_option linter.unusedVariables false
set_option linter.unusedSimpArgs false

theorem ans_of {q : Q} (hR : QRight q) (hb : q.l.broken = false) (s : QS) : ansQ q s = stM q s := by
  unfold ansQ; rw [if_pos hR]; unfold chQ; rw [if_neg (by rw [hb]; decide)]
theorem sort_uniq {es : List E} (h : SortE es) {i j : Nat} {x y : E} (hx : es[i]? = some x) (hy : es[j]? = some y) (he : x.seq = y.seq) : i = j := by
  obtain ⟨h1, h1'⟩ := List.getElem?_eq_some_iff.1 hx
  obtain ⟨h2, h2'⟩ := List.getElem?_eq_some_iff.1 hy
  rcases Nat.lt_trichotomy i j with k | k | k
  · have := List.pairwise_iff_getElem.1 h i j h1 h2 k
    rw [h1', h2'] at this; omega
  · exact k
  · have := List.pairwise_iff_getElem.1 h j i h2 h1 k
    rw [h1', h2'] at this; omega
/-- where an entry that is leased is found by its number -/
theorem held_of {es : List E} (h : SortE es) {i : Nat} {x : E} (hx : es[i]? = some x) (hl : x.leased = true) : heldAt es x.seq = some i := by
  unfold heldAt
  rw [List.findIdx?_eq_some_iff_getElem]
  obtain ⟨h1, h1'⟩ := List.getElem?_eq_some_iff.1 hx
  refine ⟨h1, by rw [h1', hl]; simp, fun j hj => ?_⟩
  intro hp
  simp only [Bool.and_eq_true, decide_eq_true_eq] at hp
  have := sort_uniq h (List.getElem?_eq_getElem (by omega : j < es.length)) hx hp.2
  omega
end Go.Proofs.YtkhmdofeonlnpaaGreatDoor

/- QUEUE, MATHEMATICS: a queue that is filled; one entry acked makes room. -/
namespace Go.Proofs.YtkhmdofeonlnpaaGreatDoor
open Go.RowKit
set_option maxRecDepth 100000
set_option linter.unusedVariables false
set_option linter.unusedSimpArgs false

theorem QG.tight {q : Q} {fs : List F} {fr : Nat} {rs : List Rec} {fu fa size : Int} {K : Nat} (h : QG q fs fr rs fu fa size K) : QG q fs fr rs fu fa size (fr + rs.length) := ⟨h.l, h.kk, h.es, h.sz, h.mo, h.ln, h.fr1, Nat.le_refl _⟩
abbrev xB : ByteArray := ⟨#[120]⟩
abbrev yB : ByteArray := ⟨#[121]⟩
/-- a queue into which was put i times -/
def FI (most : Int) (i : Nat) (q : Q) : Prop := ∃ fs rs, QG q fs 1 rs (-1) (-1) 262144 (1 + rs.length) ∧ rs.length = min i most.toNat ∧ q.es.length = rs.length ∧ (∀ e ∈ q.es, e.leased = false) ∧ fs.length ≤ i ∧ q.most = most
theorem fi_zero {most : Int} (hm : 1 ≤ most ∧ most ≤ 1024) : FI most 0 (q0Q 262144 most) :=
  ⟨[], [], qg_nil (by omega) hm, by simp, rfl, (fun e h => by simp at h), Nat.le_refl _, rfl⟩
end Go.Proofs.YtkhmdofeonlnpaaGreatDoor

/- QUEUE, MATHEMATICS: what was put is leased and acked in order. -/
namespace Go.Proofs.YtkhmdofeonlnpaaGreatDoor
open Go.RowKit
set_option maxRecDepth 100000
set_option linter.unusedVariables false
set_option linter.unusedSimpArgs false

/-- a queue into which these texts were put -/
def OI (size most : Int) (want : List ByteArray) (q : Q) : Prop := ∃ fs rs, QG q fs 1 rs (-1) (-1) size (1 + rs.length) ∧ rs.length = want.length ∧ q.es.map E.data = want ∧ (∀ e ∈ q.es, e.leased = false) ∧ (want.length : Int) ≤ most ∧ q.most = most ∧ (1 ≤ most ∧ most ≤ 1024)
theorem oi_zero {size most : Int} (hs : 1 ≤ size ∧ size ≤ 262144) (hm : 1 ≤ most ∧ most ≤ 1024) : OI size most [] (q0Q size most) :=
  ⟨[], [], qg_nil hs hm, rfl, rfl, (fun e h => by simp at h), by simp; omega, rfl, hm⟩
theorem oi_put {size most : Int} {want : List ByteArray} {q : Q} (h : OI size most want q) (s : ByteArray) :
    ((ansQ q (.put s)).2.2 = 0 ∧ OI size most (want ++ [s]) (ansQ q (.put s)).1) ∨ ((ansQ q (.put s)).2.2 ≠ 0 ∧ ((ansQ q (.put s)).1.l.broken = true ∨ 65536 ≤ s.size ∨ most ≤ (q.es.length : Int))) := by
  obtain ⟨fs, rs, hg, hl, he, hf, hw, hmo, hm⟩ := h
  have hel : q.es.length = want.length := by rw [← he, List.length_map]
  rw [hg.ans (by omega) (.put s)]
  show ((putM q s).2.2 = 0 ∧ OI size most (want ++ [s]) (putM q s).1) ∨ ((putM q s).2.2 ≠ 0 ∧ ((putM q s).1.l.broken = true ∨ _))
  by_cases h1 : q.most ≤ (q.es.length : Int)
  · right
    unfold putM
    rw [if_pos h1]
    exact ⟨by simp, .inr (.inr (by omega))⟩
  by_cases h2 : 65535 < s.size
  · right
    unfold putM
    rw [if_neg h1, if_pos h2]
    exact ⟨by simp, .inr (.inl (by omega))⟩
  rcases qg_put (d := s) hg (by omega) h1 h2 with ⟨c1, fs1, a1, b1, g1, l1, s1, v1, m1⟩ | ⟨h8, _, hb, _⟩
  · left
    refine ⟨c1, fs1, _, g1.tight, ?_, ?_, ?_, ?_, by rw [m1, hmo], hm⟩
    · simp only [List.length_append, List.length_singleton]; omega
    · rw [s1, List.map_append, he]; rfl
    · intro e h
      rw [s1] at h
      rcases List.mem_append.1 h with k | k
      · exact hf e k
      · rw [List.mem_singleton] at k; subst k; rfl
    · simp only [List.length_append, List.length_singleton]; omega
  · right
    exact ⟨by omega, .inl hb⟩
/-- .. of which these are left, behind j acks -/
def OJ (size : Int) (j : Nat) (rest : List ByteArray) (q : Q) : Prop := ∃ fs fr rs, QG q fs fr rs (-1) (-1) size (1025 + j) ∧ q.es.map E.data = rest ∧ ∀ e ∈ q.es, e.leased = false
theorem oi_oj {size most : Int} {want : List ByteArray} {q : Q} (h : OI size most want q) : OJ size 0 want q := by
  obtain ⟨fs, rs, hg, hl, he, hf, hw, hmo, hm⟩ := h
  exact ⟨fs, 1, rs, hg.mono (by omega), he, hf⟩
theorem held_none {es : List E} (h : ∀ e ∈ es, e.leased = false) (s : Nat) : heldAt es s = none := by
  unfold heldAt
  rw [List.findIdx?_eq_none_iff]
  intro x hx
  rw [h x hx]; rfl
/-- an ack that the disk was too full for leaves a queue that is right, though it is broken -/
theorem ack_full_right {q : Q} {fs : List F} {fr : Nat} {rs : List Rec} {size : Int} {K s i : Nat} (h : QG q fs fr rs (-1) (-1) size K) (hK : K < 4611686018427387904) (hh : heldAt q.es s = some i) (hi : i < q.es.length) (hes : (ackM q s).1.es = q.es) : QRight (ackM q s).1 := by
  have hR := h.R (by omega)
  have nu : Num (-1) := by unfold Num; omega
  have hF := app_facts (l := q.l) (d := ackB s) hR.1 (by rw [h.l]; exact nu) (by rw [h.l]; exact nu)
  unfold ackM at hes ⊢
  rw [hh] at hes ⊢
  simp only at hes ⊢
  by_cases h0 : (appM q.l (ackB s)).2 = 0
  · rw [if_pos h0] at hes
    simp only at hes
    have := congrArg List.length hes
    rw [List.length_eraseIdx, if_pos hi] at this
    omega
  · rw [if_neg h0]
    obtain ⟨_, h5, h6, h7⟩ := hR
    exact ⟨hF.R, h5, h6, by show inM (appM q.l (ackB s)).1.nx.toNat (appM q.l (ackB s)).1.fr.toNat q.es; rw [(hF.no h0).2, hF.fr]; exact h7⟩
theorem oj_step {size : Int} {j : Nat} {s : ByteArray} {rest : List ByteArray} {q : Q} (h : OJ size j (s :: rest) q) (hj : j ≤ 1024) :
    ∃ q1 e, ansQ q .lease = (q1, e, 0) ∧ e.data = s ∧ e.seq < 4611686018427387904 ∧ ∃ q2 c2, ansQ q1 (.ack e.seq) = (q2, zE, c2) ∧ (∃ q3 c3, ansQ q2 (.ack e.seq) = (q3, zE, c3) ∧ (c3 = 19 ∨ c3 ≠ 19 ∧ q3.l.broken = true)) ∧ (c2 = 0 ∧ OJ size (j + 1) rest q2 ∨ c2 = 8) := by
  obtain ⟨fs, fr, rs, hg, he, hf⟩ := h
  obtain ⟨e0, t0, hes⟩ : ∃ e t, q.es = e :: t := by
    cases hx : q.es with
    | nil => rw [hx] at he; simp at he
    | cons e t => exact ⟨e, t, rfl⟩
  rw [hes, List.map_cons] at he
  injection he with hd ht
  have hfr : freeAt q.es = some 0 := by
    rw [hes]; unfold freeAt
    rw [List.findIdx?_cons, hf e0 (by rw [hes]; exact List.mem_cons_self)]
    rfl
  have hx : q.es[0]? = some e0 := by rw [hes]; rfl
  have hl1 : leaseM q = (⟨q.l, q.es.set 0 (leaseE e0), q.most⟩, leaseE e0, 0) := by
    unfold leaseM; rw [hfr]; simp only [hx]
  have g1 := hg.set hx (e2 := leaseE e0) rfl
  have hR1 := g1.R (by omega)
  have hso := sort_in hR1.2.2.2
  have hx1 : (q.es.set 0 (leaseE e0))[0]? = some (leaseE e0) := by rw [hes]; rfl
  have hh := held_of hso hx1 rfl
  have hsq := (inM_lt hg.inE (List.mem_of_getElem? hx)).1
  have hbd := hg.bd
  have hal := hg.ans (by omega) .lease
  have haa := g1.ans (by omega) (.ack (leaseE e0).seq)
  refine ⟨_, leaseE e0, hal.trans hl1, hd, by show e0.seq < _; omega, ?_⟩
  rcases qg_ack (s := (leaseE e0).seq) (i := 0) (e := leaseE e0) g1 (by omega) hh hx1 rfl with ⟨c4, fs4, fr4, rs4, g4, l4, s4, v4, m4⟩ | ⟨c8, h64, hb8, v8, s8⟩
  · obtain ⟨⟨q4, v4', c4'⟩, hq4⟩ : ∃ r, ackM ⟨q.l, q.es.set 0 (leaseE e0), q.most⟩ (leaseE e0).seq = r := ⟨_, rfl⟩
    rw [hq4] at c4 g4 s4 v4 m4
    simp only at c4 g4 s4 v4 m4
    subst c4 v4
    have hq4es : q4.es = t0 := by rw [s4, hes]; rfl
    have hfree : ∀ e ∈ q4.es, e.leased = false := fun e h => hf e (by rw [hes]; rw [hq4es] at h; exact List.mem_cons_of_mem _ h)
    refine ⟨q4, 0, haa.trans hq4, ⟨q4, 19, ?_, .inl rfl⟩, .inl ⟨rfl, fs4, fr4, rs4, g4.mono (by omega), by rw [hq4es]; exact ht, hfree⟩⟩
    rw [g4.ans (by omega) (.ack (leaseE e0).seq)]
    show ackM q4 _ = _
    unfold ackM
    rw [held_none hfree]
  · have hQR := ack_full_right g1 (by omega) hh (by rw [set_len, hes]; simp) s8
    obtain ⟨⟨q4, v4', c4'⟩, hq4⟩ : ∃ r, ackM ⟨q.l, q.es.set 0 (leaseE e0), q.most⟩ (leaseE e0).seq = r := ⟨_, rfl⟩
    rw [hq4] at c8 hb8 v8 hQR
    simp only at c8 hb8 v8 hQR
    subst c8 v8
    refine ⟨q4, 8, haa.trans hq4, ⟨q4, 6, ?_, .inr ⟨by decide, hb8⟩⟩, .inr rfl⟩
    unfold ansQ
    rw [if_pos hQR]
    unfold chQ
    rw [if_pos hb8]
end Go.Proofs.YtkhmdofeonlnpaaGreatDoor

/- QUEUE: texts of the call's own; a queue's variable beside them. -/
namespace Go.Proofs.YtkhmdofeonlnpaaGreatDoor
open Go.RowKit
set_option maxRecDepth 100000
set_option linter.unusedVariables false
set_option linter.unusedSimpArgs false

/-- the slice v of the call's own has the texts ss -/
def SRow (w : World) (base : Nat) (v : Value) (ss : List ByteArray) : Prop := w.ownsRow base 9 1 v ss.length (ss.map Value.string)
theorem SRow.lt {w : World} {base : Nat} {v : Value} {ss : List ByteArray} (h : SRow w base v ss) : ∀ k, v.ownBlock = some k → base ≤ k ∧ k < w.heap.size := World.ownsRow.lt h
theorem SRow.kept {w w' : World} {base : Nat} {v : Value} {ss : List ByteArray} {row : Option Nat} (h : SRow w base v ss) (hg : w.grownBy w' row) (hne : v.ownBlock = none ∨ v.ownBlock ≠ row) : SRow w' base v ss := World.ownsRow.kept h hg hne
theorem SRow.under {w w' : World} {base : Nat} {v : Value} {ss : List ByteArray} (h : SRow w base v ss) (hb : Below w.heap.size w w') : SRow w' base v ss :=
  h.kept (row := none) ⟨hb.os, hb.tape, hb.output, hb.size, fun k hk _ => hb.block k hk⟩ (by cases e : v.ownBlock <;> simp)
theorem SRow.strs {w : World} {base : Nat} {v : Value} {ss : List ByteArray} (h : SRow w base v ss) : ∃ ad cap, v = .slice ad ss.length cap ∧ Strs w w.heap.size ad ss := by
  rcases h.2 with ⟨hv, hn⟩ | ⟨g, cap, cur, hv, hbg, hg, hnc, hcm, hcs, htake⟩
  · have hx : ss = [] := List.eq_nil_of_length_eq_zero hn
    subst hx
    exact ⟨none, 0, hv, fun h => absurd rfl h⟩
  · refine ⟨some ⟨g, 0, none⟩, cap, hv, fun _ => ⟨g, 0, rfl, (Array.getElem?_eq_some_iff.1 hg).1, fun i s hs => ?_⟩⟩
    have := World.ownsRow.cells h (g := g) (by rw [hv]; rfl) i (.string s) (by simp [hs])
    rwa [show (⟨g, 0, none⟩ : Addr).add i = ⟨g, 0 + i, none⟩ by unfold Addr.add; split <;> simp_all] at this
theorem Tryz.info9 : (Tryz.prog.info? 9).map (fun i => (i.zero, i.size, i.bytes)) = some (some (.string ⟨#[]⟩), 1, 16) := by kernel_rfl
/-- a slice of ours lies beside a queue's lists -/
def Dis (v : Value) (ad : Option Addr) (n cap : Nat) (be : Option Addr) (m cp : Nat) (q : Q) : Prop := ∀ b, v.ownBlock = some b → (q.l.d.files ≠ [] → (Value.slice ad n cap).ownBlock ≠ some b) ∧ (q.es ≠ [] → (Value.slice be m cp).ownBlock ≠ some b)
theorem QV.lts {w W : World} {g : Nat} {q : Q} {ad : Option Addr} {n cap : Nat} {be : Option Addr} {m cp : Nat} (h : QV w W g q ad n cap be m cp) : (q.l.d.files ≠ [] → ∀ b, (Value.slice ad n cap).ownBlock = some b → b < W.heap.size) ∧ (q.es ≠ [] → ∀ b, (Value.slice be m cp).ownBlock = some b → b < W.heap.size) := by
  refine ⟨fun hne b e => h.i.l.d.i.own_lt hne b e, fun hne b e => ?_⟩
  obtain ⟨g, off, rfl, hg, _⟩ := h.i.e.2.2.2 hne
  simp [Value.ownBlock] at e
  omega
/-- a slice of ours grows -/
theorem QV.grown {w W W' : World} {g : Nat} {q : Q} {ad : Option Addr} {n cap : Nat} {be : Option Addr} {m cp : Nat} (h : QV w W g q ad n cap be m cp) {row : Option Nat} (hg : W.grownBy W' row)
    (hr : ∀ r, row = some r → w.heap.size ≤ r ∧ r ≠ g ∧ (q.l.d.files ≠ [] → (Value.slice ad n cap).ownBlock ≠ some r) ∧ (q.es ≠ [] → (Value.slice be m cp).ownBlock ≠ some r)) : QV w W' g q ad n cap be m cp := by
  obtain ⟨l1, l2⟩ := h.lts
  have hgl := (Array.getElem?_eq_some_iff.1 h.h).1
  refine ⟨(hg.block g hgl (fun e => (hr g e.symm).2.1 rfl)).trans h.h, ⟨⟨⟨(h.i.l.d.i.same2 (fun hne b e => hg.block b (l1 hne b e) (fun er => (hr b er.symm).2.2.1 hne e))).mono hg.size, h.i.l.d.fit, h.i.l.d.u0, h.i.l.d.u1, h.i.l.d.f0, h.i.l.d.f1⟩, h.i.l.s0, h.i.l.s1, h.i.l.f0, h.i.l.f1, h.i.l.n0, h.i.l.n1⟩, ?_, h.i.fit, h.i.m⟩, ?_, h.g⟩
  · refine EIn.mono (B := W.heap.size) ?_ hg.size
    by_cases he : q.es = []
    · refine ⟨h.i.e.1, h.i.e.2.1, h.i.e.2.2.1, ?_⟩
      rw [he]; exact Els.nil _ _ _
    · exact h.i.e.same (fun b e => hg.block b (l2 he b e) (fun er => (hr b er.symm).2.2.2 he e))
  · exact ⟨hg.os.trans h.b.os, hg.tape.trans h.b.tape, hg.output.trans h.b.output, Nat.le_trans h.b.size hg.size, fun k hk => (hg.block k (Nat.lt_of_lt_of_le hk h.b.size) (fun e => by have := (hr k e.symm).1; omega)).trans (h.b.block k hk)⟩
end Go.Proofs.YtkhmdofeonlnpaaGreatDoor
