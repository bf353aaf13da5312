/- CONF: WHAT add LEAVES. -/
import Derived.Test.YtegobomfhdfodaaGreatDoorCu
namespace Go.Proofs.YtegobomfhdfodaaGreatDoor
open Go.RowKit
set_option maxRecDepth 100000
set_option linter.unusedVariables false
set_option linter.unusedSimpArgs false

/-- texts of the call's own, read as data -/
theorem Txs.rep {w : World} {base n0 : Nat} {act : List Value} {v : Value} {ss : List K.T} (h : Txs n0 v ss w) (hb : base ≤ n0) (hl : ∀ s ∈ ss, s.length ≤ 1000000) (ha : ∀ a ∈ act, ∃ n xs, w.ownsRow base 44 5 a n xs) : RepT (Far w base act) w v ss := by
  rcases h.2 with ⟨rfl, hn⟩ | ⟨g, cap, cur, rfl, hbg, hg, h1, h2, h3, h4⟩
  · have hx : ss = [] := List.eq_nil_of_length_eq_zero hn
    subst hx
    exact RepT.nil _ _
  · refine ⟨g, 0, ⟨_, cap, rfl, ⟨h1, by simp only [maxLen] at h2; omega⟩, fun _ => ⟨rfl, ⟨by omega, fun a h' e => ?_, cur, 9, hg, .inl rfl⟩, blk_lt hg⟩⟩, fun i y hy => ⟨?_, ?_⟩⟩
    · obtain ⟨n, xs, hr⟩ := ha a h'
      exact row_apart hr hg (by decide) e
    · have := World.ownsRow.cells h (g := g) rfl i (S y) (by rw [List.getElem?_map, hy]; rfl)
      rwa [show (⟨g, 0, none⟩ : Addr).add i = ⟨g, 0 + i, none⟩ by unfold Addr.add; split <;> simp_all] at this
    · have := hl y (List.mem_of_getElem? hy); omega
abbrev zero5 : Array Value := #[.string ⟨#[]⟩, .int .u8 0, .string ⟨#[]⟩, .slice none 0 0, .slice none 0 0]
theorem step_app_z {w : World} {ops : Array Oper} {o : Oper} {a : Act} {Kk : Act → World → Prop} {Q : Exit → Act → World → Prop} {Ee : Prop} (hgd : o.guard = none) (s x : Operand)
    (ho : o.op = .call { callee := .builtin .append, args := #[s, x], argTypes := #[30, 30] }) (base n : Nat) (v : Value) (xs : List Value) (hs : a.eval s = v) (hown : w.ownsRow base 44 5 v n xs) (g0 : Nat) (hx : a.eval x = .slice (some ⟨g0, 0, none⟩) 1 1) (hg0 : g0 = w.heap.size) (hlen : n ≤ 1000000) (hbase : base ≤ w.heap.size)
    (h : ∀ v' w', w'.ownsRow base 44 5 v' (n + 1) (xs ++ zero5.toList) → (w.alloc (.cells zero5 44)).grownBy w' v.ownBlock → (v'.ownBlock = v.ownBlock ∨ v'.ownBlock = some (w.heap.size + 1)) → Kk (a.put o.dst v') w') :
    if Region.wanted o (yielded ops a.tmps) = true then Oper.wp Tryz.prog o a (w.alloc (.cells zero5 44)) Kk Q else Ee := by
  have hw : Region.wanted o (yielded ops a.tmps) = true := by simp [Region.wanted, hgd]
  rw [if_pos hw]
  subst hg0
  obtain ⟨i0, hi, hz0, hz1, hz2⟩ := info_parts Tryz.info44
  obtain ⟨v', w', hr, h2, h3, _, h5⟩ := run_append_own_at (P := Tryz.prog) (w.alloc (.cells zero5 44)) base 30 o.type 44 i0 _ 5 88 Tryz.underlying30 hi hz0 hz1 hz2 rfl (by decide) v n xs (World.ownsRow.alloc hown _)
    ⟨w.heap.size, 0, none⟩ 1 1 zero5.toList rfl
    (by
      intro j u hu
      have e : (⟨w.heap.size, 0, none⟩ : Addr).add j = ⟨w.heap.size, j, none⟩ := by unfold Addr.add; split <;> simp_all
      rw [e, cell_of_row _ w.heap.size j _ 44 (0, 0) (heap_alloc_new w _), ← Array.getElem?_toList]
      exact hu)
    (by
      intro u hu
      simp only [zero5, List.mem_cons, List.not_mem_nil, or_false] at hu
      rcases hu with rfl | rfl | rfl | rfl | rfl <;> rfl) (by unfold maxLen; omega) (by omega) (by simp; omega)
  rw [World.size_alloc] at h5
  unfold Oper.wp execOp
  simp only [ho, resolve, invoke, builtin, Sem.run_bind, Sem.run_pure, Result.andThen_ok, List.map_toArray, List.map_cons, List.map_nil, hs, hx, hr]
  exact h v' w' h2 h3 h5
/-- what the stores leave -/
structure AddZ (base far vb : Nat) (q' v : Value) (n m : Nat) (rowxs levxs : List Value) (w6 Z : World) : Prop where
  row : Z.ownsRow far 44 5 q' (m + 1) rowxs
  lev : Z.ownsRow base 63 2 v (n + 1) levxs
  oth : ∀ k, k ≠ vb → q'.ownBlock ≠ some k → Z.heap[k]? = w6.heap[k]?
  os : Z.os = w6.os
  tape : Z.tape = w6.tape
  output : Z.output = w6.output
  size : Z.heap.size = w6.heap.size
theorem sets5 (xs : List Value) (m : Nat) (hm : xs.length = m * 5) (e : E) : ((((((xs ++ zero5.toList).set (m * 5) (S e.1)).set (m * 5 + 1) (.int .u8 (e.2.1.k : Int))).set (m * 5 + 2) (S e.2.1.s)).set (m * 5 + 3) e.2.2.1).set (m * 5 + 4) e.2.2.2) = xs ++ kc e := by
  rw [List.set_append_right _ _ (by omega), List.set_append_right _ _ (by omega), List.set_append_right _ _ (by omega), List.set_append_right _ _ (by omega), List.set_append_right _ _ (by omega), hm]
  congr 1
  rw [show m * 5 - m * 5 = 0 from by omega, show m * 5 + 1 - m * 5 = 1 from by omega, show m * 5 + 2 - m * 5 = 2 from by omega, show m * 5 + 3 - m * 5 = 3 from by omega, show m * 5 + 4 - m * 5 = 4 from by omega]
  rfl
theorem lev_set (lo : List LV) (a : LV) (q' : Value) (es' : List E) : ((lo ++ [a]).flatMap lc).set (lo.length * 2 + 1) q' = (lo ++ [(⟨a.ind, q', es'⟩ : LV)]).flatMap lc := by
  rw [List.flatMap_append, List.flatMap_append, List.flatMap_singleton, List.flatMap_singleton, List.set_append_right _ _ (by rw [fm_len lc_len]; omega), fm_len lc_len]
  congr 1
  rw [show lo.length * 2 + 1 - lo.length * 2 = 1 from by omega]
  rfl
def put5 (w : World) (bq o : Nat) (e : E) : World := ((((w.setCell ⟨bq, o, none⟩ (S e.1)).setCell ⟨bq, o + 1, none⟩ (.int .u8 (e.2.1.k : Int))).setCell ⟨bq, o + 2, none⟩ (S e.2.1.s)).setCell ⟨bq, o + 3, none⟩ e.2.2.1).setCell ⟨bq, o + 4, none⟩ e.2.2.2
theorem set_size (w : World) (a : Addr) (v : Value) : (w.setCell a v).heap.size = w.heap.size := by simp [World.setCell]
theorem put5_size (w : World) (bq o : Nat) (e : E) : (put5 w bq o e).heap.size = w.heap.size := (set_size _ _ _).trans ((set_size _ _ _).trans ((set_size _ _ _).trans ((set_size _ _ _).trans (set_size _ _ _))))
theorem put5_oth (w : World) (bq o k : Nat) (e : E) (h : k ≠ bq) : (put5 w bq o e).heap[k]? = w.heap[k]? := (Below.heap_setCell _ ⟨bq, o + 4, none⟩ _ k h).trans ((Below.heap_setCell _ ⟨bq, o + 3, none⟩ _ k h).trans ((Below.heap_setCell _ ⟨bq, o + 2, none⟩ _ k h).trans ((Below.heap_setCell _ ⟨bq, o + 1, none⟩ _ k h).trans (Below.heap_setCell _ ⟨bq, o, none⟩ _ k h))))
theorem put5_row {w : World} {base bq cap m : Nat} {xs : List Value} (h : w.ownsRow base 44 5 (.slice (some ⟨bq, 0, none⟩) (m + 1) cap) (m + 1) (xs ++ zero5.toList)) (hm : xs.length = m * 5) (e : E) :
    (put5 w bq (m * 5) e).ownsRow base 44 5 (.slice (some ⟨bq, 0, none⟩) (m + 1) cap) (m + 1) (xs ++ kc e) ∧ w.grownBy (put5 w bq (m * 5) e) (some bq) := by
  have h0 := World.ownsRow.stored h (m * 5) (S e.1)
  have h1 := World.ownsRow.stored h0.1 (m * 5 + 1) (.int .u8 (e.2.1.k : Int))
  have h2 := World.ownsRow.stored h1.1 (m * 5 + 2) (S e.2.1.s)
  have h3 := World.ownsRow.stored h2.1 (m * 5 + 3) e.2.2.1
  have h4 := World.ownsRow.stored h3.1 (m * 5 + 4) e.2.2.2
  refine ⟨?_, (((h0.2.trans h1.2).trans h2.2).trans h3.2).trans h4.2⟩
  have := h4.1
  rw [sets5 xs m hm e] at this
  exact this
theorem addZ_a {w6 : World} {base far vb bq cap c n m : Nat} {xs lv : List Value} (h : w6.ownsRow far 44 5 (.slice (some ⟨bq, 0, none⟩) (m + 1) cap) (m + 1) (xs ++ zero5.toList)) (hm : xs.length = m * 5) (hl : w6.ownsRow base 63 2 (.slice (some ⟨vb, 0, none⟩) (n + 1) c) (n + 1) lv) (e : E) :
    AddZ base far vb (.slice (some ⟨bq, 0, none⟩) (m + 1) cap) (.slice (some ⟨vb, 0, none⟩) (n + 1) c) n m (xs ++ kc e) (lv.set (n * 2 + 1) (.slice (some ⟨bq, 0, none⟩) (m + 1) cap)) w6 ((put5 w6 bq (m * 5) e).setCell ⟨vb, n * 2 + 1, none⟩ (.slice (some ⟨bq, 0, none⟩) (m + 1) cap)) := by
  obtain ⟨h5, g5⟩ := put5_row h hm e
  have hne : vb ≠ bq := fun q => rows_apart hl h (by decide) bq rfl (by rw [q]; rfl)
  have hl5 := World.ownsRow.kept hl g5 (.inr (fun q => hne (by injection q)))
  have h6 := World.ownsRow.stored hl5 (n * 2 + 1) (.slice (some ⟨bq, 0, none⟩) (m + 1) cap)
  refine ⟨World.ownsRow.kept h5 h6.2 (.inr (fun q => hne (by injection q with q; exact q.symm))), h6.1, fun k h1 h2 => ?_, h6.2.os.trans g5.os, h6.2.tape.trans g5.tape, h6.2.output.trans g5.output, (set_size _ _ _).trans (put5_size _ _ _ _)⟩
  have hkb : k ≠ bq := fun q => h2 (by rw [q]; rfl)
  exact (Below.heap_setCell _ ⟨vb, n * 2 + 1, none⟩ _ k h1).trans (put5_oth _ _ _ k _ hkb)
theorem addZ_b {w6 : World} {base far vb bq cap c n m : Nat} {xs lv : List Value} (h : w6.ownsRow far 44 5 (.slice (some ⟨bq, 0, none⟩) (m + 1) cap) (m + 1) (xs ++ zero5.toList)) (hm : xs.length = m * 5) (hl : w6.ownsRow base 63 2 (.slice (some ⟨vb, 0, none⟩) (n + 1) c) (n + 1) lv) (e : E) :
    AddZ base far vb (.slice (some ⟨bq, 0, none⟩) (m + 1) cap) (.slice (some ⟨vb, 0, none⟩) (n + 1) c) n m (xs ++ kc e) (lv.set (n * 2 + 1) (.slice (some ⟨bq, 0, none⟩) (m + 1) cap)) w6 (put5 (w6.setCell ⟨vb, n * 2 + 1, none⟩ (.slice (some ⟨bq, 0, none⟩) (m + 1) cap)) bq (m * 5) e) := by
  have hne : vb ≠ bq := fun q => rows_apart hl h (by decide) bq rfl (by rw [q]; rfl)
  have h6 := World.ownsRow.stored hl (n * 2 + 1) (.slice (some ⟨bq, 0, none⟩) (m + 1) cap)
  have h0 := World.ownsRow.kept h h6.2 (.inr (fun q => hne (by injection q with q; exact q.symm)))
  obtain ⟨h5, g5⟩ := put5_row h0 hm e
  refine ⟨h5, World.ownsRow.kept h6.1 g5 (.inr (fun q => hne (by injection q))), fun k h1 h2 => ?_, g5.os.trans h6.2.os, g5.tape.trans h6.2.tape, g5.output.trans h6.2.output, (put5_size _ _ _ _).trans (set_size _ _ _)⟩
  have hkb : k ≠ bq := fun q => h2 (by rw [q]; rfl)
  exact (put5_oth _ _ _ k _ hkb).trans (Below.heap_setCell _ ⟨vb, n * 2 + 1, none⟩ _ k h1)
/-- a key more -/
theorem MS.add {X w6 Z : World} {base far g vb n m : Nat} {v q' : Value} {lo : List LV} {a : LV} {e : E} (h : MS base far g v (lo ++ [a]) X) (hv : v.ownBlock = some vb) (hg : (X.alloc (.cells zero5 44)).grownBy w6 a.q.ownBlock) (hob : q'.ownBlock = a.q.ownBlock ∨ q'.ownBlock = some (X.heap.size + 1))
    (hz : AddZ base far vb q' v n m ((a.es ++ [e]).flatMap kc) ((lo ++ [(⟨a.ind, q', a.es ++ [e]⟩ : LV)]).flatMap lc) w6 Z) (hn : lo.length = n) (hm : a.es.length = m) (hk : e.1.length ≤ 1000000) (hr : Rep (Far X far ((lo ++ [a]).map (·.q))) X e.2.2.1 e.2.2.2 e.2.1) (hb : base ≤ X.heap.size) :
    MS base far g v (lo ++ [⟨a.ind, q', a.es ++ [e]⟩]) Z ∧ Bo base X Z := by
  have hka := h.keys a (by simp)
  have hvb : ∀ k cs t f, X.heap[k]? = some (.cells cs t f) → t ≠ 63 → k ≠ vb := fun k cs t f hk ht e => row_apart h.row hk ht (by rw [hv, e])
  have hq1 : ∀ k cs t f, X.heap[k]? = some (.cells cs t f) → t ≠ 44 → a.q.ownBlock ≠ some k := fun k cs t f hk ht => row_apart hka.row hk ht
  have hq2 : ∀ k, k < X.heap.size → a.q.ownBlock ≠ some k → q'.ownBlock ≠ some k := fun k hk h1 e => by
    rcases hob with h2 | h2
    · exact h1 (h2.symm.trans e)
    · rw [h2] at e; injection e with e; omega
  have hold : ∀ k, k < X.heap.size → k ≠ vb → a.q.ownBlock ≠ some k → Z.heap[k]? = X.heap[k]? := fun k hk h1 h2 => by
    rw [hz.oth k h1 (hq2 k hk h2), hg.block k (by simp; omega) (fun e => h2 e.symm)]
    exact Below.heap_alloc X _ k hk
  have hsz : X.heap.size ≤ Z.heap.size := by rw [hz.size]; have := hg.size; simp at this; omega
  have hs : SameX a.q.ownBlock X Z := ⟨hsz, fun b cs t hb' ht hx => hold b (blk_lt hb') (hvb b cs t _ hb' (by rcases ht with rfl | rfl <;> decide)) hx⟩
  have hx2 : a.q.ownBlock = none ∨ ∃ x ∈ (lo ++ [a]).map (·.q), x.ownBlock = a.q.ownBlock := .inr ⟨a.q, by simp, rfl⟩
  have hact : ∀ a' ∈ (lo ++ [(⟨a.ind, q', a.es ++ [e]⟩ : LV)]).map (·.q), (∃ x ∈ (lo ++ [a]).map (·.q), x.ownBlock = a'.ownBlock) ∨ ∀ k, a'.ownBlock = some k → X.heap.size ≤ k := by
    intro a' ha'
    simp only [List.map_append, List.map_cons, List.map_nil, List.mem_append, List.mem_cons, List.not_mem_nil, or_false] at ha'
    rcases ha' with ha' | rfl
    · exact .inl ⟨a', by simp only [List.map_append, List.mem_append]; exact .inl ha', rfl⟩
    · rcases hob with h2 | h2
      · exact .inl ⟨a.q, by simp, h2.symm⟩
      · exact .inr fun k hk => by rw [h2] at hk; injection hk with hk; omega
  have hkept : Kept (Far X far ((lo ++ [a]).map (·.q))) X Z := ⟨hsz, fun x hx _ => (Far.kept (act' := (lo ++ [(⟨a.ind, q', a.es ++ [e]⟩ : LV)]).map (·.q)) hs hx2 hact hx).1⟩
  have hmono : ∀ x, Far X far ((lo ++ [a]).map (·.q)) x → x < X.heap.size → Far Z far ((lo ++ [(⟨a.ind, q', a.es ++ [e]⟩ : LV)]).map (·.q)) x := fun x hx _ => (Far.kept hs hx2 hact hx).2
  have hap := List.pairwise_append.1 h.apart
  have hgz : Z.heap[g]? = some (.cells #[v] 65 (0, 0)) := (hold g h.lt (hvb g _ _ _ h.box (by decide)) (hq1 g _ _ _ h.box (by decide))).trans h.box
  have hal : ∀ k, a.q.ownBlock = some k → base ≤ k ∧ k < X.heap.size := fun k hk => ⟨Nat.le_trans h.bf (World.ownsRow.lt hka.row k hk).1, (World.ownsRow.lt hka.row k hk).2⟩
  refine ⟨⟨h.bf, h.bg, hgz, ?_, ?_, ?_⟩, ⟨?_, hsz, ?_⟩⟩
  · rw [show (lo ++ [(⟨a.ind, q', a.es ++ [e]⟩ : LV)]).length = n + 1 from by simp; omega]
    exact hz.lev
  · intro l hl
    rcases List.mem_append.1 hl with hl | hl
    · refine (h.keys l (by simp [hl])).kept hs ?_ hx2 hact
      cases hlb : l.q.ownBlock with
      | none => exact .inl rfl
      | some k => exact .inr (fun e => hap.2.2 l hl a (by simp) k hlb e.symm)
    · simp only [List.mem_singleton] at hl
      subst hl
      refine ⟨?_, ?_, ?_⟩
      · show Z.ownsRow far 44 5 q' (a.es ++ [e]).length _
        rw [show (a.es ++ [e]).length = m + 1 from by simp; omega]
        exact hz.row
      · intro y hy
        rcases List.mem_append.1 hy with hy | hy
        · exact hka.key y hy
        · simp only [List.mem_singleton] at hy; subst hy; exact hk
      · intro y hy
        rcases List.mem_append.1 hy with hy | hy
        · exact (hka.rep y hy).keep hkept hmono
        · simp only [List.mem_singleton] at hy; subst hy; exact hr.keep hkept hmono
  · refine List.pairwise_append.2 ⟨hap.1, List.pairwise_singleton _ _, fun l hl x hx k hk => ?_⟩
    simp only [List.mem_singleton] at hx
    subst hx
    have hkl := World.ownsRow.lt (h.keys l (by simp [hl])).row k hk
    exact hq2 k hkl.2 (hap.2.2 l hl a (by simp) k hk)
  · refine ⟨hz.os.trans hg.os, hz.tape.trans hg.tape, hz.output.trans hg.output, hsz, fun i hi => hold i (by omega) (fun e => ?_) (fun e => by have := (hal i e).1; omega)⟩
    have := (World.ownsRow.lt h.row vb hv).1
    omega
  · intro b o hbo ho
    refine (hold b (blk_lt hbo) (fun e => ?_) (fun e => ?_)).trans hbo
    · rcases h.row.2 with ⟨h', _⟩ | ⟨b', cap', cur, h', _, hb', _⟩
      · rw [h'] at hv; cases hv
      · rw [h'] at hv
        injection hv with hv
        simp only at hv
        subst hv
        subst e
        rw [hb'] at hbo
        injection hbo with hbo
        exact (ho _ _ _ hbo.symm).2.1 rfl
    · rcases hka.row.2 with ⟨h', _⟩ | ⟨b', cap', cur, h', _, hb', _⟩
      · rw [h'] at e; cases e
      · rw [h'] at e
        injection e with e
        simp only at e
        subst e
        rw [hb'] at hbo
        injection hbo with hbo
        exact (ho _ _ _ hbo.symm).1 rfl
end Go.Proofs.YtegobomfhdfodaaGreatDoor
