/- CONF: THE WALK OVER Parse. -/
import Derived.Test.YtegobomfhdfodaaGreatDoorCy
namespace Go.Proofs.YtegobomfhdfodaaGreatDoor
open Go.RowKit Go.Shelf
attribute [local go_sem] Oper.semAt_some
set_option maxRecDepth 100000
set_option linter.unusedVariables false
set_option linter.unusedSimpArgs false

/-- how Parse ends -/
def PR (n : Nat) (w' : World) (o : Except (Int × Nat) (List (K.T × Nd))) (e : Ending) : Prop := match o with
  | .ok ks => ∃ q, e = .returned (.tuple #[.agg #[.int .u8 0, .string ⟨#[]⟩, .slice none 0 0, q], .int .i64 0, .int .i64 0]) ∧ RepK (New n w') w' q ks
  | .error x => e = .returned (.tuple #[.agg #[.int .u8 0, .string ⟨#[]⟩, .slice none 0 0, .slice none 0 0], .int .i64 x.1, .int .i64 (x.2 : Int)])
/-- what Parse's loop keeps -/
def PI (w : World) (pre : List (Nat × K.T)) (X : World) : Prop :=
  (Boxes w.heap.size 0 0 X ∧ Below w.heap.size w X ∧ Tb X) ∧ ∃ st, K.steps K.st0 pre = .ok st ∧ MR w.heap.size (w.heap.size + 13) (w.heap.size + 4) st X ∧ K.Ok st ∧ K.Wait st
def PX (w : World) (c : Code) (pre : List (Nat × K.T)) (X : World) : Prop :=
  c = .ret ∧ Below w.heap.size w X ∧ ∃ e k, K.steps K.st0 pre = .error (e, k) ∧ Boxes w.heap.size e (k : Int) X
theorem Steps.keep {B : Nat} {n : Nat} {A C : World} {row : Option Nat} (hr : Steps B (XL (n + 8)) A row) (hg : A.grownBy C row) (hB : n + 5 ≤ B) {k : Nat} {cs : Array Value} {t : TypeId} {f : Nat × Nat} (hk : A.heap[k]? = some (.cells cs t f)) (hn : k < n + 9 ∨ n + 10 < k) : C.heap[k]? = some (.cells cs t f) :=
  hr.block hg hk (fun e => by rcases e with e | e <;> omega) (.inr rfl)
theorem Boxes.steps {B n : Nat} {c k : Int} {A C : World} {row : Option Nat} (h : Boxes n c k A) (hr : Steps B (XL (n + 8)) A row) (hg : A.grownBy C row) (hB : n + 5 ≤ B) : Boxes n c k C :=
  ⟨hr.keep hg hB h.1 (by omega), hr.keep hg hB h.2.1 (by omega), hr.keep hg hB h.2.2 (by omega)⟩
theorem below_steps {B : Nat} {w A C : World} {row : Option Nat} (h : Below w.heap.size w A) (hr : Steps B (XL (w.heap.size + 8)) A row) (hg : A.grownBy C row) (hB : w.heap.size + 5 ≤ B) : Below w.heap.size w C :=
  h.trans ⟨hg.os, hg.tape, hg.output, hg.size, fun k hk => hg.block k (by have := h.size; omega) (fun e => by
    rcases hr k e.symm with ⟨hx, _⟩ | ⟨hb, _⟩
    · rcases hx with hx | hx <;> omega
    · omega)⟩
theorem Tb.steps {B n : Nat} {A C : World} {row : Option Nat} (h : Tb A) (hr : Steps B (XL (n + 8)) A row) (hg : A.grownBy C row) (hB : n + 5 ≤ B) (hn : 4 < n) : Tb C := by
  obtain ⟨⟨m, hc⟩, hlt⟩ := h
  refine ⟨⟨m, ?_⟩, Nat.lt_of_lt_of_le hlt hg.size⟩
  have := hg.block 4 hlt (fun e => by
    rcases hr 4 e.symm with ⟨hx, _⟩ | ⟨hb, _⟩
    · rcases hx with hx | hx <;> omega
    · omega)
  unfold World.cell? at hc ⊢
  simp only at hc ⊢
  rw [this]
  exact hc
theorem PI.abx (w : World) (hw : 4 < w.heap.size) : AbX (w.heap.size + 6) (XL (w.heap.size + 8)) (PI w) := by
  rintro pre A C row ⟨⟨h1, h2, h3⟩, st, h4, h5, h6, h7⟩ hg hr
  refine ⟨⟨h1.steps hr hg (by omega), below_steps h2 hr hg (by omega), h3.steps hr hg (by omega) hw⟩, st, h4, h5.steps hg fun r e => ?_, h6, h7⟩
  rcases hr r e with ⟨hx, h⟩ | ⟨_, h⟩
  · exact .inl ⟨by rcases hx with hx | hx <;> omega, h⟩
  · exact .inr (.inr h)
theorem PX.abx (w : World) (c : Code) : AbX (w.heap.size + 6) (XL (w.heap.size + 8)) (PX w c) := by
  rintro pre A C row ⟨hc, h2, e, k, h4, h5⟩ hg hr
  exact ⟨hc, below_steps h2 hr hg (by omega), e, k, h4, h5.steps hr hg (by omega)⟩
theorem boxes_put {X : World} {n : Nat} {c0 k0 : Int} (h : Boxes n c0 k0 X) (a0 a1 a2 a3 c k : Value) {G : World}
    (hG : G = (((((X.setCell ⟨n, 0, none⟩ a0).setCell ⟨n, 1, none⟩ a1).setCell ⟨n, 2, none⟩ a2).setCell ⟨n, 3, none⟩ a3).setCell ⟨n + 1, 0, none⟩ c).setCell ⟨n + 1 + 1, 0, none⟩ k) :
    G.heap[n]? = some (.cells #[a0, a1, a2, a3] 32 (0, 0)) ∧ G.heap[n + 1]? = some (.cells #[c] 23 (0, 0)) ∧ G.heap[n + 1 + 1]? = some (.cells #[k] 3 (0, 0)) ∧ (∀ j, j ≠ n → j ≠ n + 1 → j ≠ n + 1 + 1 → G.heap[j]? = X.heap[j]?) ∧ G.heap.size = X.heap.size ∧ Below n X G := by
  obtain ⟨Y, hY⟩ : ∃ Y, Y = (((X.setCell ⟨n, 0, none⟩ a0).setCell ⟨n, 1, none⟩ a1).setCell ⟨n, 2, none⟩ a2).setCell ⟨n, 3, none⟩ a3 := ⟨_, rfl⟩
  have hy : X.grownBy Y (some n) := by rw [hY]; exact (((set_grown1 X n 0 _).trans (set_grown1 _ n 1 _)).trans (set_grown1 _ n 2 _)).trans (set_grown1 _ n 3 _)
  have hyn : Y.heap[n]? = some (.cells #[a0, a1, a2, a3] 32 (0, 0)) := by
    rw [hY]
    exact heap_setCell_same _ n 3 _ 32 _ (heap_setCell_same _ n 2 _ 32 _ (heap_setCell_same _ n 1 _ 32 _ (heap_setCell_same _ n 0 _ 32 _ h.1)))
  have hys : Y.heap.size = X.heap.size := by rw [hY]; exact (set_size _ _ _).trans ((set_size _ _ _).trans ((set_size _ _ _).trans (set_size _ _ _)))
  rw [← hY] at hG
  clear hY
  have g1 : Y.heap[n + 1]? = some (.cells #[.int .i64 c0] 23 (0, 0)) := (hy.block _ (blk_lt h.2.1) (fun e => by injection e with e; omega)).trans h.2.1
  have g2 : Y.heap[n + 1 + 1]? = some (.cells #[.int .i64 k0] 3 (0, 0)) := (hy.block _ (blk_lt h.2.2) (fun e => by injection e with e; omega)).trans h.2.2
  obtain ⟨Z, hZ⟩ : ∃ Z, Z = Y.setCell ⟨n + 1, 0, none⟩ c := ⟨_, rfl⟩
  have hzo : ∀ j, j ≠ n + 1 → Z.heap[j]? = Y.heap[j]? := fun j hj => by rw [hZ]; exact Below.heap_setCell Y ⟨n + 1, 0, none⟩ c j hj
  have hz1 : Z.heap[n + 1]? = some (.cells #[c] 23 (0, 0)) := by rw [hZ]; exact heap_setCell_same Y (n + 1) 0 _ 23 c g1
  have hzs : Z.heap.size = Y.heap.size := by rw [hZ]; exact set_size _ _ _
  have hzb : Below n Y Z := by rw [hZ]; exact (Below.refl _ Y).setCell (p := ⟨n + 1, 0, none⟩) (by show n ≤ n + 1; omega) c
  rw [← hZ] at hG
  clear hZ
  have hgo : ∀ j, j ≠ n + 1 + 1 → G.heap[j]? = Z.heap[j]? := fun j hj => by rw [hG]; exact Below.heap_setCell Z ⟨n + 1 + 1, 0, none⟩ k j hj
  have hg2 : G.heap[n + 1 + 1]? = some (.cells #[k] 3 (0, 0)) := by rw [hG]; exact heap_setCell_same Z (n + 1 + 1) 0 _ 3 k ((hzo _ (by omega)).trans g2)
  refine ⟨(hgo n (by omega)).trans ((hzo n (by omega)).trans hyn), (hgo _ (by omega)).trans hz1, hg2, fun j h1 h2 h3 => (hgo j h3).trans ((hzo j h2).trans ?_), ?_, ?_⟩
  · by_cases hj : j < X.heap.size
    · exact hy.block j hj (fun e => by injection e with e; exact h1 e)
    · rw [Array.getElem?_eq_none (by omega), Array.getElem?_eq_none (by omega)]
  · rw [hG, set_size, hzs, hys]
  · refine (((Below.refl n X).trans ⟨hy.os, hy.tape, hy.output, hy.size, fun i hi => hy.block i (by have := blk_lt h.1; omega) (fun e => by injection e with e; omega)⟩).trans hzb).trans ?_
    rw [hG]
    exact (Below.refl _ Z).setCell (p := ⟨n + 1 + 1, 0, none⟩) (by show n ≤ n + 1 + 1; omega) k
set_option maxHeartbeats 8000000 in
theorem parse_in (w : World) (s : K.T) (hl : s.length ≤ 16384) (hT : Tb w) : CallsIn Fence.wide 6 Tryz.prog 16 #[S s] w fun e w' => Below w.heap.size w w' ∧ PR w.heap.size w' (K.close (K.steps K.st0 (K.linesOf s))) e := by
  obtain ⟨R, hR⟩ : ∃ R, K.close (K.steps K.st0 (K.linesOf s)) = R := ⟨_, rfl⟩
  rw [hR]
  have HR := Lib.hid hR
  have hw4 := hT.2
  have HTw := Lib.hid hT
  clear hR
  refine callsIn_of_wp_marks Tryz.func16 rfl trivial ?_ rfl
  simp only [Tryz.ntmps16, List.size_toArray, List.length_cons, List.length_nil, Nat.reduceAdd, Nat.reduceSub, Array.replicate_succ, Array.replicate_zero, List.push_toArray, List.append_toArray, List.nil_append, List.cons_append]
  obtain ⟨W0, hW0⟩ : ∃ X, X = ((w.alloc (.cells #[.int .u8 0, .string ⟨#[]⟩, .slice none 0 0, .slice none 0 0] 32)).alloc (.cells #[.int .i64 0] 23)).alloc (.cells #[.int .i64 0] 3) := ⟨_, rfl⟩
  have hb0 : Below w.heap.size w W0 := by rw [hW0]; exact (((Below.refl _ w).alloc (Nat.le_refl _) _).alloc (by simp) _).alloc (by simp; omega) _
  have hbx0 : Boxes w.heap.size 0 0 W0 := by
    have h1 := blk_new w (.cells #[.int .u8 0, .string ⟨#[]⟩, .slice none 0 0, .slice none 0 0] 32)
    have h2 := blk_new (w.alloc (.cells #[.int .u8 0, .string ⟨#[]⟩, .slice none 0 0, .slice none 0 0] 32)) (.cells #[.int .i64 0] 23)
    have h3 := blk_new ((w.alloc (.cells #[.int .u8 0, .string ⟨#[]⟩, .slice none 0 0, .slice none 0 0] 32)).alloc (.cells #[.int .i64 0] 23)) (.cells #[.int .i64 0] 3)
    simp only [World.size_alloc] at h2 h3
    rw [hW0]
    exact ⟨blk_alloc (blk_alloc h1 _) _, blk_alloc h2 _, h3⟩
  have hs0 : W0.heap.size = w.heap.size + 3 := by rw [hW0]; simp
  have s1 := S_size s
  have hl' : ¬ (16384 : Int) < (s.length : Int) := by omega
  have HL := Lib.hid hl
  have HS0 := Lib.hid hs0
  clear hl hs0
  gi_upto_region 1 with (fail)
  rw [← hW0]
  clear hW0
  obtain ⟨W1, hW1⟩ : ∃ X, X = (W0.alloc (.cells #[.int .i64 0, .slice none 0 0] 63)).alloc (.cells #[.slice (some ⟨W0.heap.size, 0, none⟩) 1 1] 65) := ⟨_, rfl⟩
  have hb1 : Below W0.heap.size W0 W1 := by rw [hW1]; exact ((Below.refl _ W0).alloc (Nat.le_refl _) _).alloc (by simp) _
  have hm1 : MR w.heap.size (w.heap.size + 13) (w.heap.size + 4) K.st0 W1 := by
    have := MR.first W0 w.heap.size (by have := HS0.out; omega) (w.heap.size + 13) (by omega)
    rw [← hW1] at this
    rw [HS0.out] at this
    exact this
  have hs1 : W1.heap.size = w.heap.size + 5 := by have := HS0.out; rw [hW1]; simp; omega
  gi_upto_region 4 with (fail)
  rw [← hW1]
  clear hW1
  have HS1 := Lib.hid hs1
  clear hs1
  gi_wp2_with fail
  refine ⟨trivial, ?_⟩
  refine (callsIn_wide.2 (lines_any W1 s)).mono ?_
  rintro e w6 ⟨rfl, hw6⟩
  obtain ⟨W2, hW2⟩ : ∃ X, X = w6 := ⟨_, rfl⟩
  rw [← hW2] at hw6 ⊢
  clear hW2
  have hb2 : Below W1.heap.size W1 W2 := by rw [← hw6]; exact (Below.refl _ W1).alloc (Nat.le_refl _) _
  have hs2 : W2.heap.size = w.heap.size + 6 := by have := HS1.out; rw [← hw6]; simp; omega
  have hq : W2.heap[w.heap.size + 5]? = some (.cells #[S s] 9 (0, 0)) := by rw [← hw6, ← HS1.out]; exact blk_new W1 _
  have hb12 := hb1.trans (hb2.mono hb1.size)
  have hPI : PI w [] W2 := ⟨⟨⟨blk_under hbx0.1 hb12, blk_under hbx0.2.1 hb12, blk_under hbx0.2.2 hb12⟩, hb0.trans (hb12.mono hb0.size), hT.under (hb0.trans (hb12.mono hb0.size))⟩, K.st0, rfl, hm1.under hb2, K.st0_ok, K.st0_wait⟩
  rw [HS1.out]
  have HP := Lib.hid hPI
  have HS2 := Lib.hid hs2
  have HQ := Lib.hid hq
  clear hw6 hb0 hb1 hb2 hb12 hs2 hq hPI hbx0 hm1
  gi_wp2
  rw [HS0.out]
  refine range_X (F := Fence.wide) (n := 6) rfl (by omega) (gf := 45) (lb := #[.pointer (some ⟨w.heap.size + 5, 0, none⟩)]) rfl trivial (enters_of Tryz.func45 (by kernel_rfl) rfl)
      (encs := fun x : Nat × K.T => #[.int .i64 (x.1 : Int), S x.2]) (El := fun x => x.2.length ≤ 100000) (Kp := KpL (w.heap.size + 8)) (S := fun xs => xs = K.linesOf s) (Sp := fun pre => pre <+: K.linesOf s) (N := (K.pieces s).length) (M := w.heap.size + 13) (XL (w.heap.size + 8)) (fun r hr => by have := HS2.out; rcases hr with hr | hr <;> omega) (fun h k => h.trans k)
      (fun V o o' ho hc => ⟨Kpn.put _ _ V _ o o' ho hc, ⟨by simp, fun k ob hk hob _ => (World.putObj_heap_other (by have := HS2.out; omega)).trans hob⟩⟩) (fun _ => rfl)
      (PI w) (PX w) (by rw [HS2.out]; exact PI.abx w hw4) (fun c => by rw [HS2.out]; exact PX.abx w c) HP.out ?seq
      (fun x a' X => ∃ Bx, w.heap.size + 13 ≤ Bx ∧ X.heap[Bx]? = some (.cells #[S x.2] 9 (0, 0)) ∧ a' = ⟨#[S s, undef, .pointer (some ⟨w.heap.size, 0, none⟩), .pointer (some ⟨w.heap.size + 1, 0, none⟩), .pointer (some ⟨w.heap.size + 1 + 1, 0, none⟩), .pointer (some ⟨w.heap.size + 3 + 1, 0, none⟩), .int .i64 (x.1 : Int), .pointer (some ⟨Bx, 0, none⟩), undef, S s, .int .i64 (s.length : Int), .bool false, undef, .agg #[.int .i64 0, .slice none 0 0], .slice (some ⟨w.heap.size + 3, 0, none⟩) 1 1, S s, .func (.func 45) #[] #[.pointer (some ⟨w.heap.size + 5, 0, none⟩)], .int .i64 (x.1 : Int), S x.2, undef, undef, undef, undef, undef, undef, undef, undef], []⟩)
      (fun x a' _ X Y row hs hg hr => ?ax) ?assign ?body ?done ?stop
  case seq =>
    intro J2 Jx2 V hbV hsV hJ2 hJx2 hR h02
    have h8 : V.heap.size = w.heap.size + 8 := by have := HS2.out; omega
    rw [h8] at hJ2 hJx2
    have hl2 := HL.out
    have := lines_it (W2.heap.size + 1) (w.heap.size + 5) (K.pieces s).length (w.heap.size + 8) s (by omega) V h8.symm (blk_under HQ.out hbV) J2 Jx2 hJ2 hJx2 (Nat.le_refl _) hR h02
    exact this
  case ax =>
    obtain ⟨Bx, h1, h2, h3⟩ := hs
    refine ⟨Bx, h1, (hg.block Bx (blk_lt h2) (fun e => ?_)).trans h2, h3⟩
    obtain ⟨_, o, ho, hc⟩ := hr Bx e.symm
    rw [h2] at ho; injection ho with ho; subst ho; cases hc
  case assign =>
    rintro l2 pre x X Kk hel hM hPI hK
    gi_wp2
    refine hK _ _ ((KeepsOthers.alloc _ _).from _) ⟨Kpn.of_below ((Below.refl _ X).alloc (Nat.le_refl _) _), (KeepsOthers.alloc _ _).from _⟩ ((PI.abx w hw4).none hPI ((Below.refl _ X).alloc (Nat.le_refl _) _)) ⟨X.heap.size, hM, blk_new X _, rfl⟩
  case body =>
    rintro l2 pre x a' X hl2 ⟨r, hr⟩ hel hM ⟨⟨hbx, hbel, hTb⟩, st, hst, hmr, hok, hwait⟩ ⟨Bx, hBx, hxb, rfl⟩ hlt
    have hsz := HS2.out
    obtain ⟨V, hV⟩ : ∃ V, V = X.alloc (.cells #[.int .i64 0] 23) := ⟨_, rfl⟩
    have hbV : Below X.heap.size X V := by rw [hV]; exact (Below.refl _ X).alloc (Nat.le_refl _) _
    have hev : V.heap[X.heap.size]? = some (.cells #[.int .i64 0] 23 (0, 0)) := by rw [hV]; exact blk_new X _
    have hp1 := p1_any V w.heap.size (w.heap.size + 13) (w.heap.size + 4) Bx st x.2 (hmr.under hbV) hok hwait (blk_under hxb hbV) (by simpa using hel) (hTb.under hbV) (Nat.le_trans hbel.size hbV.size) (Nat.le_trans hM hbV.size)
    -- what Caught leaves, in its box
    have hafter : ∀ (c : Int) (w1 w' : World), Bo w.heap.size V w1 → w1.heap[X.heap.size]? = some (.cells #[.int .i64 0] 23 (0, 0)) → w' = w1.setCell ⟨X.heap.size, 0, none⟩ (.int .i64 c) →
        (Boxes w.heap.size 0 0 w' ∧ Below w.heap.size w w') ∧ KeepsFrom W2.heap.size X w' ∧ KpL (w.heap.size + 8) X w' ∧ (∀ st', MR w.heap.size (w.heap.size + 13) (w.heap.size + 4) st' w1 → MR w.heap.size (w.heap.size + 13) (w.heap.size + 4) st' w') := fun c w1 w' hbo he hw' => by
      have hg : w1.grownBy w' (some X.heap.size) := by rw [hw']; exact set_grown1 w1 _ 0 _
      have hoth : ∀ b o, X.heap[b]? = some o → (∀ cs t f, o = Obj.cells cs t f → t ≠ 44 ∧ t ≠ 63 ∧ t ≠ 65) → w'.heap[b]? = some o := fun b o hb ho => by
        have h1 := hbo.oth.2 b o (blk_under hb hbV) ho
        exact (hg.block b (blk_lt h1) (fun e => by injection e with e; have := blk_lt hb; omega)).trans h1
      have hss : X.heap.size ≤ w'.heap.size := Nat.le_trans hbV.size (Nat.le_trans hbo.oth.1 hg.size)
      have hkf : ∀ B, KeepsFrom B X w' := fun B => ⟨hss, fun k o _ hk hc => hoth k o hk (fun cs t f e => by subst e; cases hc)⟩
      refine ⟨⟨⟨hoth _ _ hbx.1 (fun cs t f e => by injection e with _ e; subst e; decide), hoth _ _ hbx.2.1 (fun cs t f e => by injection e with _ e; subst e; decide), hoth _ _ hbx.2.2 (fun cs t f e => by injection e with _ e; subst e; decide)⟩, ?_⟩, hkf _, ⟨⟨hss, fun k cs t f _ _ ht hk => hoth k _ hk (fun cs' t' f' e => by injection e with _ e; subst e; rcases ht with rfl | rfl | rfl <;> decide)⟩, hkf _⟩, fun st' h => h.steps hg fun r e => ?_⟩
      · refine (hbel.trans (hbV.mono hbel.size)).trans (hbo.low.trans ⟨hg.os, hg.tape, hg.output, hg.size, fun i hi => hg.block i (by have := hbo.low.size; have := hbV.size; have := hbel.size; omega) (fun e => by injection e with e; have := hbel.size; omega)⟩)
      · injection e with e; subst e; exact .inr (.inl ⟨_, _, he⟩)
    have hcaught : ∀ w1, Bo w.heap.size V w1 → w1.heap[X.heap.size]? = some (.cells #[.int .i64 0] 23 (0, 0)) := fun w1 hbo => hbo.oth.2 _ _ hev (fun cs t f e => by injection e with _ e; subst e; decide)
    have HA := Lib.hid hafter
    have hsn : ∀ st', K.step st x.2 = .ok st' → K.steps K.st0 (pre ++ [x]) = .ok st' := fun st' h => by rw [K.steps_snoc_ok hst, h]
    have hse : ∀ c, K.step st x.2 = .error c → K.steps K.st0 (pre ++ [x]) = .error (c, x.1) := fun c h => by rw [K.steps_snoc_ok hst, h]
    have HSN := Lib.hid (And.intro hsn hse)
    have HP1 := Lib.hid hp1
    have HCT := Lib.hid hcaught
    have HVV := Lib.hid hV
    clear hafter hsn hse hp1 hcaught hV hbV hev hbx hbel hTb hmr hok hwait hst hr HP HQ HR hxb hsz
    cases hstep : K.step st x.2 with
    | ok st' =>
      have hcl : Calls Tryz.prog 30 #[.pointer (some ⟨w.heap.size + 3 + 1, 0, none⟩), .pointer (some ⟨Bx, 0, none⟩)] (X.alloc (.cells #[.int .i64 0] 23)) fun en w1 => en = .returned (.tuple #[]) ∧ w1.heap[X.heap.size]? = some (.cells #[.int .i64 0] 23 (0, 0)) ∧ (MR w.heap.size (w.heap.size + 13) (w.heap.size + 4) st' w1 ∧ K.Ok st' ∧ Bo w.heap.size V w1) := by
        rw [← HVV.out]
        refine (HP1.out).mono fun en w1 hD => ?_
        rw [hstep] at hD
        exact ⟨hD.2.1, HCT.out w1 hD.1, hD.2.2.1, hD.2.2.2, hD.1⟩
      have hc := caught_ok X 30 _ _ (fun W => by kernel_rfl) hcl
      have HC := Lib.hid hc
      have HST := Lib.hid hstep
      clear hcl hc hstep
      gi_wp2_with fail
      refine ⟨trivial, ?_⟩
      refine (callsIn_wide.2 HC.out).mono ?_
      rintro e w9 ⟨rfl, w1, ⟨hm1, hok1, hbo1⟩, he1, hw9⟩
      obtain ⟨⟨hb9, hbel9⟩, hkf9, hkp9, hmr9⟩ := HA.out 0 w1 w9 hbo1 he1 hw9
      have HFIN := Lib.hid (show KeepsFrom W2.heap.size X w9 ∧ KpL (w.heap.size + 8) X w9 ∧ PI w (pre ++ [x]) w9 from ⟨hkf9, hkp9, ⟨hb9, hbel9, HTw.out.under hbel9⟩, st', HSN.out.1 st' HST.out, hmr9 st' hm1, hok1, K.step_wait HST.out⟩)
      clear hm1 hok1 hbo1 he1 hw9 hb9 hbel9 hkf9 hkp9 hmr9
      gi_wp2
      exact HFIN.out
    | error c =>
      have hcl : Calls Tryz.prog 30 #[.pointer (some ⟨w.heap.size + 3 + 1, 0, none⟩), .pointer (some ⟨Bx, 0, none⟩)] (X.alloc (.cells #[.int .i64 0] 23)) fun en w1 => en = .panicked [{ v := .iface 23 (.int .i64 c), recovered := false }] ∧ w1.heap[X.heap.size]? = some (.cells #[.int .i64 0] 23 (0, 0)) ∧ Bo w.heap.size V w1 := by
        rw [← HVV.out]
        refine (HP1.out).mono fun en w1 hD => ?_
        rw [hstep] at hD
        exact ⟨hD.2, HCT.out w1 hD.1, hD.1⟩
      have hc := caught_no X 30 _ _ c (fun W => by kernel_rfl) hcl
      have hc0 := K.step_err hstep
      have hcne : (c == 0) = false := by rcases hc0 with h | h | h | h <;> rw [h] <;> rfl
      have hcne2 : (c != 0) = true := by rcases hc0 with h | h | h | h <;> rw [h] <;> rfl
      have HC := Lib.hid hc
      have HST := Lib.hid hstep
      clear hcl hc hstep hc0
      gi_wp2_with fail
      refine ⟨trivial, ?_⟩
      refine (callsIn_wide.2 HC.out).mono ?_
      rintro e w9 ⟨rfl, w1, hbo1, he1, hw9⟩
      obtain ⟨⟨hb9, hbel9⟩, hkf9, hkp9, hmr9⟩ := HA.out c w1 w9 hbo1 he1 hw9
      have HFIN := Lib.hid (show KeepsFrom W2.heap.size X w9 ∧ KpL (w.heap.size + 8) X w9 ∧ Below w.heap.size w w9 ∧ Boxes w.heap.size 0 0 w9 from ⟨hkf9, hkp9, hbel9, hb9⟩)
      clear hbo1 he1 hw9 hbel9 hkf9 hkp9 hmr9
      obtain ⟨⟨x0, x1, x2, x3⟩, f0, f1, f2, f3⟩ := box4 hb9.1
      have y0 := cell1 hb9.2.1
      have yf := free1 hb9.2.1
      have z0 := cell1 hb9.2.2
      have zf := free1 hb9.2.2
      have hl1 := blk_lt hb9.1
      have hl2' := blk_lt hb9.2.1
      have hl3 := blk_lt hb9.2.2
      clear hb9
      gi_wp2
      obtain ⟨G, hG⟩ : ∃ G, G = (((((w9.setCell ⟨w.heap.size, 0, none⟩ (.int .u8 0)).setCell ⟨w.heap.size, 1, none⟩ (.string ⟨#[]⟩)).setCell ⟨w.heap.size, 2, none⟩ (.slice none 0 0)).setCell ⟨w.heap.size, 3, none⟩ (.slice none 0 0)).setCell ⟨w.heap.size + 1, 0, none⟩ (.int .i64 c)).setCell ⟨w.heap.size + 1 + 1, 0, none⟩ (.int .i64 (x.1 : Int)) := ⟨_, rfl⟩
      rw [← hG]
      obtain ⟨g1, g2, g3, go, gs, gb⟩ := boxes_put HFIN.out.2.2.2 (.int .u8 0) (.string ⟨#[]⟩) (.slice none 0 0) (.slice none 0 0) (.int .i64 c) (.int .i64 (x.1 : Int)) hG
      clear hG
      have hb9 := HFIN.out.2.2.2
      have hnc : ∀ (k : Nat) (o : Obj), w9.heap[k]? = some o → o.isCells = false → G.heap[k]? = some o := fun k o hk hc => by
        refine (go k (fun e => ?_) (fun e => ?_) (fun e => ?_)).trans hk
        · subst e; rw [hb9.1] at hk; injection hk with hk; subst hk; cases hc
        · subst e; rw [hb9.2.1] at hk; injection hk with hk; subst hk; cases hc
        · subst e; rw [hb9.2.2] at hk; injection hk with hk; subst hk; cases hc
      have hkG : ∀ B, KeepsFrom B w9 G := fun B => ⟨by omega, fun k o _ hk hc => hnc k o hk hc⟩
      refine ⟨HFIN.out.1.trans (hkG _), ⟨HFIN.out.2.1.1.trans ⟨by omega, fun k cs t f h1 _ _ hk => (go k (by omega) (by omega) (by omega)).trans hk⟩, HFIN.out.2.1.2.trans (hkG _)⟩, rfl, HFIN.out.2.2.1.trans gb, c, x.1, HSN.out.2 c HST.out, g1, g2, g3⟩
  case done =>
    rintro D xs X hD rfl ⟨⟨hbx, hbel, hTb⟩, st, hst, hmr, hok, hwait⟩ hK
    have hR : R = .ok (K.all st) := by rw [← HR.out, hst]; rfl
    have hD6 : w.heap.size + 6 ≤ D := by have := HS2.out; omega
    have hal := all_any X w.heap.size (w.heap.size + 13) (w.heap.size + 4) st hmr hok hbel.size
    have HK := Lib.hid hK
    have HB := Lib.hid (And.intro hbx hbel)
    have HAL := Lib.hid hal
    have HRR := Lib.hid hR
    clear hK hbx hbel hal hst hmr hok hwait hTb hR HR HP HQ
    gi_wp2_with fail
    refine ⟨trivial, ?_⟩
    refine (callsIn_wide.2 HAL.out).mono ?_
    rintro e X1 ⟨q, rfl, hrep, hb1⟩
    obtain ⟨adq, capq, rfl, _⟩ := hrep.form
    have hbx1 : Boxes w.heap.size 0 0 X1 := ⟨hb1.oth.2 _ _ HB.out.1.1 (fun cs t f e => by injection e with _ e; subst e; decide), hb1.oth.2 _ _ HB.out.1.2.1 (fun cs t f e => by injection e with _ e; subst e; decide), hb1.oth.2 _ _ HB.out.1.2.2 (fun cs t f e => by injection e with _ e; subst e; decide)⟩
    have hK1 := hb1.oth.2 _ _ HK.out (fun cs t f e => nomatch e)
    obtain ⟨⟨x0, x1, x2, x3⟩, f0, f1, f2, f3⟩ := box4 hbx1.1
    have y0 := cell1 hbx1.2.1
    have yf := free1 hbx1.2.1
    have z0 := cell1 hbx1.2.2
    have zf := free1 hbx1.2.2
    have hl1 := blk_lt hbx1.1
    have hl2 := blk_lt hbx1.2.1
    have hl3 := blk_lt hbx1.2.2
    have HX1 := Lib.hid (And.intro hbx1 hK1)
    have HRP := Lib.hid (And.intro hrep (HB.out.2.trans hb1.low))
    generalize (K.all st).length = ln at *
    clear hbx1 hK1 hrep hb1 HK HAL
    gi_wp2
    obtain ⟨G, hG⟩ : ∃ G, G = (((((X1.setCell ⟨w.heap.size, 0, none⟩ (.int .u8 0)).setCell ⟨w.heap.size, 1, none⟩ (.string ⟨#[]⟩)).setCell ⟨w.heap.size, 2, none⟩ (.slice none 0 0)).setCell ⟨w.heap.size, 3, none⟩ (.slice adq ln capq)).setCell ⟨w.heap.size + 1, 0, none⟩ (.int .i64 0)).setCell ⟨w.heap.size + 1 + 1, 0, none⟩ (.int .i64 0) := ⟨_, rfl⟩
    rw [← hG]
    obtain ⟨g1, g2, g3, go, gs, gb⟩ := boxes_put HX1.out.1 (.int .u8 0) (.string ⟨#[]⟩) (.slice none 0 0) (.slice adq ln capq) (.int .i64 0) (.int .i64 0) hG
    clear hG
    have gD := (go D (by omega) (by omega) (by omega)).trans HX1.out.2
    have gB2 : Below w.heap.size w (G.putObj D (.deferred none)) := (HRP.out.2.trans gb).grown (grownBy_putObj' G D (.deferred none)) (HRP.out.2.trans gb).size (fun k e => by cases e; omega)
    have px : (G.putObj D (.deferred none)).heap[w.heap.size]? = _ := (World.putObj_heap_other (by omega)).trans g1
    have py : (G.putObj D (.deferred none)).heap[w.heap.size + 1]? = _ := (World.putObj_heap_other (by omega)).trans g2
    have pz : (G.putObj D (.deferred none)).heap[w.heap.size + 1 + 1]? = _ := (World.putObj_heap_other (by omega)).trans g3
    obtain ⟨⟨q0, q1, q2, q3⟩, _⟩ := box4 px
    have q4 := cell1 py
    have q5 := cell1 pz
    refine ⟨by simp, .inl ⟨_, _, rfl, run_takeDeferred gD, ?_⟩⟩
    refine ⟨.tuple #[.agg #[.int .u8 0, .string ⟨#[]⟩, .slice none 0 0, .slice adq ln capq], .int .i64 0, .int .i64 0], by simp [results, Tryz.results16, go_sem, q0, q1, q2, q3, q4, q5], gB2, ?_⟩
    rw [HRR.out]
    have hne : ∀ b, Far X1 w.heap.size [] b → (G.putObj D (.deferred none)).heap[b]? = X1.heap[b]? := fun b hb => by
      obtain ⟨h1, _, cs, t, hc, ht⟩ := hb
      have e1 : b ≠ w.heap.size := fun e => by
        subst e; have := HX1.out.1.1; rw [hc] at this; injection this with this; injection this with _ this _; subst this; rcases ht with h | h <;> cases h
      have e2 : b ≠ w.heap.size + 1 := fun e => by
        subst e; have := HX1.out.1.2.1; rw [hc] at this; injection this with this; injection this with _ this _; subst this; rcases ht with h | h <;> cases h
      have e3 : b ≠ w.heap.size + 1 + 1 := fun e => by
        subst e; have := HX1.out.1.2.2; rw [hc] at this; injection this with this; injection this with _ this _; subst this; rcases ht with h | h <;> cases h
      have e4 : b ≠ D := fun e => by
        subst e; have := HX1.out.2; rw [hc] at this; cases this
      exact (World.putObj_heap_other e4).trans (go b e1 e2 e3)
    refine ⟨_, rfl, HRP.out.1.keep (B' := New w.heap.size (G.putObj D (.deferred none))) ⟨by simp; omega, fun b hb _ => hne b hb⟩ fun b hb _ => ⟨hb.1, ?_⟩⟩
    obtain ⟨cs, t, hc, _⟩ := hb.2.2
    exact ⟨cs, t, (hne b hb).trans hc⟩
  case stop =>
    rintro D c pre V hD hpre ⟨rfl, hbel, e, k, hst, hbx⟩ hK
    have hR : R = .error (e, k) := by rw [← HR.out, K.steps_pre hst hpre]; rfl
    have hD6 : w.heap.size + 6 ≤ D := by have := HS2.out; omega
    have HK := Lib.hid hK
    have HRR := Lib.hid hR
    have gB2 : Below w.heap.size w (V.putObj D (.deferred none)) := hbel.grown (grownBy_putObj' V D (.deferred none)) hbel.size (fun k e => by cases e; omega)
    have px : (V.putObj D (.deferred none)).heap[w.heap.size]? = _ := (World.putObj_heap_other (by omega)).trans hbx.1
    have py : (V.putObj D (.deferred none)).heap[w.heap.size + 1]? = _ := (World.putObj_heap_other (by omega)).trans hbx.2.1
    have pz : (V.putObj D (.deferred none)).heap[w.heap.size + 1 + 1]? = _ := (World.putObj_heap_other (by omega)).trans hbx.2.2
    obtain ⟨⟨q0, q1, q2, q3⟩, _⟩ := box4 px
    have q4 := cell1 py
    have q5 := cell1 pz
    have HG := Lib.hid gB2
    clear hK hR hbx hbel hst px py pz gB2
    gi_wp2
    refine ⟨by simp, .inl ⟨_, _, rfl, run_takeDeferred HK.out, ?_⟩⟩
    refine ⟨.tuple #[.agg #[.int .u8 0, .string ⟨#[]⟩, .slice none 0 0, .slice none 0 0], .int .i64 e, .int .i64 (k : Int)], by simp [results, Tryz.results16, go_sem, q0, q1, q2, q3, q4, q5], HG.out, ?_⟩
    rw [HRR.out]
    rfl
theorem parse_long (w : World) (s : K.T) (hl : 16384 < s.length) (hl2 : s.length ≤ 9223372036854775807) : Calls Tryz.prog 16 #[S s] w fun e w' => Below w.heap.size w w' ∧ e = .returned (.tuple #[.agg #[.int .u8 0, .string ⟨#[]⟩, .slice none 0 0, .slice none 0 0], .int .i64 4, .int .i64 0]) := by
  refine (callsIn_wide (n := 6)).1 ?_
  refine callsIn_of_wp_marks Tryz.func16 rfl trivial ?_ rfl
  simp only [Tryz.ntmps16, List.size_toArray, List.length_cons, List.length_nil, Nat.reduceAdd, Nat.reduceSub, Array.replicate_succ, Array.replicate_zero, List.push_toArray, List.append_toArray, List.nil_append, List.cons_append]
  obtain ⟨W0, hW0⟩ : ∃ X, X = ((w.alloc (.cells #[.int .u8 0, .string ⟨#[]⟩, .slice none 0 0, .slice none 0 0] 32)).alloc (.cells #[.int .i64 0] 23)).alloc (.cells #[.int .i64 0] 3) := ⟨_, rfl⟩
  have hb0 : Below w.heap.size w W0 := by rw [hW0]; exact (((Below.refl _ w).alloc (Nat.le_refl _) _).alloc (by simp) _).alloc (by simp; omega) _
  have hbx0 : Boxes w.heap.size 0 0 W0 := by
    have h1 := blk_new w (.cells #[.int .u8 0, .string ⟨#[]⟩, .slice none 0 0, .slice none 0 0] 32)
    have h2 := blk_new (w.alloc (.cells #[.int .u8 0, .string ⟨#[]⟩, .slice none 0 0, .slice none 0 0] 32)) (.cells #[.int .i64 0] 23)
    have h3 := blk_new ((w.alloc (.cells #[.int .u8 0, .string ⟨#[]⟩, .slice none 0 0, .slice none 0 0] 32)).alloc (.cells #[.int .i64 0] 23)) (.cells #[.int .i64 0] 3)
    simp only [World.size_alloc] at h2 h3
    rw [hW0]
    exact ⟨blk_alloc (blk_alloc h1 _) _, blk_alloc h2 _, h3⟩
  have s1 := S_size s
  have hl' : (16384 : Int) < (s.length : Int) := by omega
  have HB := Lib.hid (And.intro hb0 hbx0)
  clear hl
  gi_upto_region 1 with (fail)
  rw [← hW0]
  clear hW0
  obtain ⟨⟨x0, x1, x2, x3⟩, f0, f1, f2, f3⟩ := box4 hbx0.1
  have y0 := cell1 hbx0.2.1
  have yf := free1 hbx0.2.1
  have z0 := cell1 hbx0.2.2
  have zf := free1 hbx0.2.2
  have hl1 := blk_lt hbx0.1
  have hl2' := blk_lt hbx0.2.1
  have hl3 := blk_lt hbx0.2.2
  clear hbx0 hb0
  gi_wp2
  obtain ⟨G, hG⟩ : ∃ G, G = (((((W0.setCell ⟨w.heap.size, 0, none⟩ (.int .u8 0)).setCell ⟨w.heap.size, 1, none⟩ (.string ⟨#[]⟩)).setCell ⟨w.heap.size, 2, none⟩ (.slice none 0 0)).setCell ⟨w.heap.size, 3, none⟩ (.slice none 0 0)).setCell ⟨w.heap.size + 1, 0, none⟩ (.int .i64 4)).setCell ⟨w.heap.size + 1 + 1, 0, none⟩ (.int .i64 0) := ⟨_, rfl⟩
  rw [← hG]
  obtain ⟨g1, g2, g3, go, gs, gb⟩ := boxes_put HB.out.2 (.int .u8 0) (.string ⟨#[]⟩) (.slice none 0 0) (.slice none 0 0) (.int .i64 4) (.int .i64 0) hG
  obtain ⟨⟨q0, q1, q2, q3⟩, _⟩ := box4 g1
  have q4 := cell1 g2
  have q5 := cell1 g3
  exact ⟨.tuple #[.agg #[.int .u8 0, .string ⟨#[]⟩, .slice none 0 0, .slice none 0 0], .int .i64 4, .int .i64 0], by simp [results, Tryz.results16, go_sem, q0, q1, q2, q3, q4, q5], HB.out.1.trans gb, rfl⟩
/-- Parse of any text -/
theorem parse_any (w : World) (s : K.T) (hl : s.length ≤ 9223372036854775807) (hT : Tb w) : Calls Tryz.prog 16 #[S s] w fun e w' => Below w.heap.size w w' ∧ PR w.heap.size w' (K.parse s) e := by
  unfold K.parse
  by_cases h : 16384 < s.length
  · rw [if_pos h]
    exact parse_long w s h hl
  · rw [if_neg h]
    exact callsIn_wide.1 (parse_in w s (by omega) hT)
end Go.Proofs.YtegobomfhdfodaaGreatDoor
