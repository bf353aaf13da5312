/- ROWS OF VALUES AND OF PAIRS OF THE CALL's OWN. -/
import Derived.Test.YtnnnnlcpmocnfaaDoorVm
import Derived.Deep.AppendLies
namespace Go.Proofs.YtnnnnlcpmocnfaaDoor
open Go.RowKit
set_option linter.unusedVariables false

/-- an element's cells: a value; a pair -/
def vc (e : V × Value × Value) : List Value := [.int .u8 e.1.k, .string e.1.s, .bool e.1.b, .int .i64 e.1.n, .float .f64 e.1.f, e.2.1, e.2.2]
def pc (e : ByteArray × V × Value × Value) : List Value := [.string e.1, .int .u8 e.2.1.k, .string e.2.1.s, .bool e.2.1.b, .int .i64 e.2.1.n, .float .f64 e.2.1.f, e.2.2.1, e.2.2.2]

theorem fm_len {α : Type} {f : α → List Value} {z : Nat} (hz : ∀ a, (f a).length = z) (es : List α) : (es.flatMap f).length = es.length * z := by
  induction es with
  | nil => simp
  | cons e es ih => rw [List.flatMap_cons, List.length_append, ih, hz, List.length_cons, Nat.add_mul]; omega
theorem fm_at {α : Type} {f : α → List Value} {z : Nat} (hz : ∀ a, (f a).length = z) (es : List α) : ∀ (i : Nat) (e : α), es[i]? = some e → ∀ j, j < z → (es.flatMap f)[i * z + j]? = (f e)[j]? := by
  induction es with
  | nil => intro i e h; simp at h
  | cons x es ih =>
    intro i e h j hj
    rw [List.flatMap_cons]
    cases i with
    | zero =>
      simp at h; subst h
      rw [List.getElem?_append_left (by rw [hz]; omega)]
      simp
    | succ i =>
      rw [List.getElem?_append_right (by rw [hz, Nat.add_mul]; omega)]
      have e' : (i + 1) * z + j - (f x).length = i * z + j := by rw [hz, Nat.add_mul]; omega
      rw [e']
      exact ih i e (by simpa using h) j hj
theorem vc_len (e : V × Value × Value) : (vc e).length = 7 := rfl
theorem pc_len (e : ByteArray × V × Value × Value) : (pc e).length = 8 := rfl

/-- the slice's own block, and all blocks ahead of base, are not met -/
def Free (w : World) (g : Nat) : Prop := ∃ cs t, w.heap[g]? = some (.cells cs t (0, 0))
theorem Free.keep {w w' : World} {g : Nat} (e : w'.heap[g]? = w.heap[g]?) (h : Free w g) : Free w' g := by obtain ⟨cs, t, h⟩ := h; exact ⟨cs, t, e.trans h⟩
def Far (w : World) (base : Nat) (o : Option Nat) (g : Nat) : Prop := base ≤ g ∧ o ≠ some g ∧ Free w g
/-- new memory, which may be written -/
def New (b : Nat) (w : World) (g : Nat) : Prop := b ≤ g ∧ Free w g

/-- the slice v of the call's own has the values es, whose lists lie elsewhere -/
structure VRow (w : World) (base : Nat) (v : Value) (es : List (V × Value × Value)) : Prop where
  row : w.ownsRow base 27 7 v es.length (es.flatMap vc)
  rep : ∀ e ∈ es, Rep (Far w base v.ownBlock) w e.2.1 e.2.2 e.1
/-- the slice v of the call's own has the pairs es -/
structure PRow (w : World) (base : Nat) (v : Value) (es : List (ByteArray × V × Value × Value)) : Prop where
  row : w.ownsRow base 51 8 v es.length (es.flatMap pc)
  key : ∀ e ∈ es, e.1.size ≤ 140737488353000
  rep : ∀ e ∈ es, Rep (Far w base v.ownBlock) w e.2.2.1 e.2.2.2 e.2.1

theorem VRow.nil (w : World) (base : Nat) : VRow w base (.slice none 0 0) [] := ⟨World.ownsRow_nil _ _ _ _, fun e h => by cases h⟩
theorem PRow.nil (w : World) (base : Nat) : PRow w base (.slice none 0 0) [] := ⟨World.ownsRow_nil _ _ _ _, (fun e h => nomatch h), (fun e h => nomatch h)⟩
theorem VRow.form {w : World} {base : Nat} {v : Value} {es : List (V × Value × Value)} (h : VRow w base v es) : ∃ ad cap, v = .slice ad es.length cap := by
  rcases h.row.2 with ⟨hv, hn⟩ | ⟨g, cap, cur, hv, _⟩
  · exact ⟨none, 0, by rw [hv, hn]⟩
  · exact ⟨_, cap, hv⟩
theorem PRow.form {w : World} {base : Nat} {v : Value} {es : List (ByteArray × V × Value × Value)} (h : PRow w base v es) : ∃ ad cap, v = .slice ad es.length cap := by
  rcases h.row.2 with ⟨hv, hn⟩ | ⟨g, cap, cur, hv, _⟩
  · exact ⟨none, 0, by rw [hv, hn]⟩
  · exact ⟨_, cap, hv⟩
theorem VRow.lt {w : World} {base : Nat} {v : Value} {es : List (V × Value × Value)} (h : VRow w base v es) : ∀ k, v.ownBlock = some k → base ≤ k ∧ k < w.heap.size := World.ownsRow.lt h.row
theorem PRow.lt {w : World} {base : Nat} {v : Value} {es : List (ByteArray × V × Value × Value)} (h : PRow w base v es) : ∀ k, v.ownBlock = some k → base ≤ k ∧ k < w.heap.size := World.ownsRow.lt h.row

/-- all from base on is as it was -/
theorem kept_of {w w' : World} {base : Nat} {o : Option Nat} (h : ∀ g, base ≤ g → g < w.heap.size → w'.heap[g]? = w.heap[g]?) (hs : w.heap.size ≤ w'.heap.size) : Kept (Far w base o) w w' := ⟨hs, fun g hg hl => h g hg.1 hl⟩
theorem row_keep {w w' : World} {base : Nat} {e : TypeId} {size : Nat} {v : Value} {n : Nat} {xs : List Value} (h : w.ownsRow base e size v n xs) (hb : ∀ g, base ≤ g → g < w.heap.size → w'.heap[g]? = w.heap[g]?) : w'.ownsRow base e size v n xs := by
  refine ⟨h.1, ?_⟩
  rcases h.2 with h2 | ⟨g, cap, cur, hv, hbg, hg, r⟩
  · exact .inl h2
  · exact .inr ⟨g, cap, cur, hv, hbg, (hb g hbg (Array.getElem?_eq_some_iff.1 hg).1).trans hg, r⟩
theorem VRow.keep {w w' : World} {base : Nat} {v : Value} {es : List (V × Value × Value)} (h : VRow w base v es) (hb : ∀ g, base ≤ g → g < w.heap.size → w'.heap[g]? = w.heap[g]?) (hs : w.heap.size ≤ w'.heap.size) : VRow w' base v es :=
  ⟨row_keep h.row hb, fun e he => (h.rep e he).keep (kept_of hb hs) fun g h hl => ⟨h.1, h.2.1, h.2.2.keep (hb g h.1 hl)⟩⟩
theorem PRow.keep {w w' : World} {base : Nat} {v : Value} {es : List (ByteArray × V × Value × Value)} (h : PRow w base v es) (hb : ∀ g, base ≤ g → g < w.heap.size → w'.heap[g]? = w.heap[g]?) (hs : w.heap.size ≤ w'.heap.size) : PRow w' base v es :=
  ⟨row_keep h.row hb, h.key, fun e he => (h.rep e he).keep (kept_of hb hs) fun g h hl => ⟨h.1, h.2.1, h.2.2.keep (hb g h.1 hl)⟩⟩
theorem VRow.under {w w' : World} {base : Nat} {v : Value} {es : List (V × Value × Value)} (h : VRow w base v es) (hb : Below w.heap.size w w') : VRow w' base v es := h.keep (fun g _ hl => hb.block g hl) hb.size
theorem PRow.under {w w' : World} {base : Nat} {v : Value} {es : List (ByteArray × V × Value × Value)} (h : PRow w base v es) (hb : Below w.heap.size w w') : PRow w' base v es := h.keep (fun g _ hl => hb.block g hl) hb.size
theorem row_mono {w : World} {base base' : Nat} {e : TypeId} {size : Nat} {v : Value} {n : Nat} {xs : List Value} (h : w.ownsRow base e size v n xs) (hb : base' ≤ base) : w.ownsRow base' e size v n xs := by
  refine ⟨h.1, ?_⟩
  rcases h.2 with h2 | ⟨g, cap, cur, hv, hg, r⟩
  · exact .inl h2
  · exact .inr ⟨g, cap, cur, hv, Nat.le_trans hb hg, r⟩
theorem VRow.mono {w : World} {base base' : Nat} {v : Value} {es : List (V × Value × Value)} (h : VRow w base v es) (hb : base' ≤ base) : VRow w base' v es :=
  ⟨row_mono h.row hb, fun e he => (h.rep e he).keep (Kept.of_below (Below.refl _ _) _) fun g hg _ => ⟨Nat.le_trans hb hg.1, hg.2⟩⟩
theorem PRow.mono {w : World} {base base' : Nat} {v : Value} {es : List (ByteArray × V × Value × Value)} (h : PRow w base v es) (hb : base' ≤ base) : PRow w base' v es :=
  ⟨row_mono h.row hb, h.key, fun e he => (h.rep e he).keep (Kept.of_below (Below.refl _ _) _) fun g hg _ => ⟨Nat.le_trans hb hg.1, hg.2⟩⟩

/-- a row read as data -/
theorem VRow.data {w : World} {base : Nat} {v : Value} {es : List (V × Value × Value)} (h : VRow w base v es) (hl : es.length ≤ 9223372036854775807) : RepL (New base w) w v (es.map (·.1)) := by
  rcases h.row.2 with ⟨rfl, hn⟩ | ⟨g, cap, cur, rfl, hbg, hg, _, _, _, _⟩
  · have hx : es = [] := List.eq_nil_of_length_eq_zero hn
    subst hx
    exact RepL.nil _ _
  · refine ⟨g, 0, fun i => ((es[i]?).map (·.2.1)).getD (.bool true), fun i => ((es[i]?).map (·.2.2)).getD (.bool true), ⟨_, cap, by rw [List.length_map], by simpa using hl, fun _ => ⟨rfl, ⟨hbg, _, _, hg⟩, (Array.getElem?_eq_some_iff.1 hg).1⟩⟩, fun i y hy => ?_⟩
    rw [List.getElem?_map, Option.map_eq_some_iff] at hy
    obtain ⟨e, he, rfl⟩ := hy
    simp only [he, Option.map_some, Option.getD_some]
    have hcell : ∀ j u, j < 7 → (vc e)[j]? = some u → w.cell? ⟨g, 0 + i * 7 + j, none⟩ = some u := fun j u hj hu => by
      have := World.ownsRow.cells h.row (g := g) rfl (i * 7 + j) u (by rw [fm_at vc_len es i e he j hj]; exact hu)
      rwa [show (⟨g, 0, none⟩ : Addr).add (i * 7 + j) = ⟨g, 0 + i * 7 + j, none⟩ by unfold Addr.add; split <;> simp_all] at this
    exact ⟨⟨hcell 0 _ (by omega) rfl, hcell 1 _ (by omega) rfl, hcell 2 _ (by omega) rfl, hcell 3 _ (by omega) rfl, hcell 4 _ (by omega) rfl, hcell 5 _ (by omega) rfl, hcell 6 _ (by omega) rfl⟩,
      (h.rep e (List.mem_of_getElem? he)).keep (Kept.of_below (Below.refl _ _) _) fun g hg _ => ⟨hg.1, hg.2.2⟩⟩
/-- the pairs of a row -/
def kv (e : ByteArray × V × Value × Value) : ByteArray × V := (e.1, e.2.1)
theorem PRow.data {w : World} {base : Nat} {v : Value} {es : List (ByteArray × V × Value × Value)} (h : PRow w base v es) (hl : es.length ≤ 9223372036854775807) : RepP (New base w) w v (es.map kv) := by
  rcases h.row.2 with ⟨rfl, hn⟩ | ⟨g, cap, cur, rfl, hbg, hg, _, _, _, _⟩
  · have hx : es = [] := List.eq_nil_of_length_eq_zero hn
    subst hx
    exact RepP.nil _ _
  · refine ⟨g, 0, fun i => ((es[i]?).map (·.2.2.1)).getD (.bool true), fun i => ((es[i]?).map (·.2.2.2)).getD (.bool true), ⟨_, cap, by rw [List.length_map], by simpa using hl, fun _ => ⟨rfl, ⟨hbg, _, _, hg⟩, (Array.getElem?_eq_some_iff.1 hg).1⟩⟩, fun i y hy => ?_⟩
    rw [List.getElem?_map, Option.map_eq_some_iff] at hy
    obtain ⟨e, he, rfl⟩ := hy
    simp only [he, Option.map_some, Option.getD_some]
    have hcell : ∀ j u, j < 8 → (pc e)[j]? = some u → w.cell? ⟨g, 0 + i * 8 + j, none⟩ = some u := fun j u hj hu => by
      have := World.ownsRow.cells h.row (g := g) rfl (i * 8 + j) u (by rw [fm_at pc_len es i e he j hj]; exact hu)
      rwa [show (⟨g, 0, none⟩ : Addr).add (i * 8 + j) = ⟨g, 0 + i * 8 + j, none⟩ by unfold Addr.add; split <;> simp_all] at this
    exact ⟨⟨hcell 0 _ (by omega) rfl, hcell 1 _ (by omega) rfl, hcell 2 _ (by omega) rfl, hcell 3 _ (by omega) rfl, hcell 4 _ (by omega) rfl, hcell 5 _ (by omega) rfl, hcell 6 _ (by omega) rfl, hcell 7 _ (by omega) rfl⟩,
      h.key e (List.mem_of_getElem? he), (h.rep e (List.mem_of_getElem? he)).keep (Kept.of_below (Below.refl _ _) _) fun g hg _ => ⟨hg.1, hg.2.2⟩⟩

theorem Tryd.info27 : (Tryd.prog.info? 27).map (fun i => (i.zero, i.size, i.bytes)) = some (some (.agg #[.int .u8 0, .string ⟨#[]⟩, .bool false, .int .i64 0, .float .f64 0, .slice none 0 0, .slice none 0 0]), 7, 96) := by kernel_rfl
theorem Tryd.info51 : (Tryd.prog.info? 51).map (fun i => (i.zero, i.size, i.bytes)) = some (some (.agg #[.string ⟨#[]⟩, .int .u8 0, .string ⟨#[]⟩, .bool false, .int .i64 0, .float .f64 0, .slice none 0 0, .slice none 0 0]), 8, 112) := by kernel_rfl

theorem far_of {w w' : World} {base : Nat} {v v' : Value} {g : Nat} (o : v'.ownBlock = v.ownBlock ∨ v'.ownBlock = some (w.heap.size + 1)) (h : Far w base v.ownBlock g) (hg : g < w.heap.size) (e : w'.heap[g]? = w.heap[g]?) : Far w' base v'.ownBlock g := by
  refine ⟨h.1, ?_, h.2.2.keep e⟩
  rcases o with o | o
  · rw [o]; exact h.2.1
  · rw [o]; intro e; injection e with e; omega
theorem slice_one {q : Value} (h : ∃ ad n cap, q = Value.slice ad n cap) : q.oneCell' = true := by obtain ⟨ad, n, cap, rfl⟩ := h; rfl
theorem Rep.slices {S : Nat → Prop} {w : World} {q1 q2 : Value} {x : V} (h : Rep S w q1 q2 x) : q1.oneCell' = true ∧ q2.oneCell' = true := by
  obtain ⟨ad, cap, e, _⟩ := h.parts.2.1.form
  obtain ⟨ad', cap', e', _⟩ := h.parts.2.2.form
  exact ⟨slice_one ⟨_, _, _, e⟩, slice_one ⟨_, _, _, e'⟩⟩

/-- append of one value -/
theorem run_app_v (ty : TypeId) (w : World) (base : Nat) (v : Value) (es : List (V × Value × Value)) (hown : VRow w base v es) (x : V) (r1 r2 : Value) (cs : Array Value) (hcs : cs.toList = vc (x, r1, r2)) (hx : Rep (Far w base v.ownBlock) w r1 r2 x)
    (hlen : es.length * 96 ≤ 140737488353100) (hbase : base ≤ w.heap.size) :
    ∃ v' w', (Builtin.append_ #[24, 24] ty #[v, .slice (some ⟨w.heap.size, 0, none⟩) 1 1]).run Tryd.prog (w.alloc (.cells cs 27)) = .ok v' w' ∧ VRow w' base v' (es ++ [(x, r1, r2)]) ∧ Grew w v w' v' := by
  obtain ⟨i0, hi, hz0, hz1, hz2⟩ := info_parts Tryd.info27
  obtain ⟨v', w', hr, h2, h3, _, h5⟩ := run_append_own_at (P := Tryd.prog) (w.alloc (.cells cs 27)) base 24 ty 27 i0 _ 7 96 Tryd.underlying24 hi hz0 hz1 hz2 rfl (by decide) v es.length (es.flatMap vc) (World.ownsRow.alloc hown.row _)
    ⟨w.heap.size, 0, none⟩ 1 1 (vc (x, r1, r2)) rfl
    (by
      intro j u hu
      have e : (⟨w.heap.size, 0, none⟩ : Addr).add j = ⟨w.heap.size, j, none⟩ := by unfold Addr.add; split <;> simp_all
      rw [e, cell_of_row _ w.heap.size j cs 27 (0, 0) (heap_alloc_new w _), ← Array.getElem?_toList, hcs]
      exact hu)
    (by
      intro u hu
      simp only [vc, List.mem_cons, List.not_mem_nil, or_false] at hu
      rcases hu with rfl | rfl | rfl | rfl | rfl | rfl | rfl <;> first | rfl | exact hx.slices.1 | exact hx.slices.2) (by unfold maxLen; omega) (by omega) (by simp; omega)
  simp only [World.size_alloc] at h5
  have hg : Grew w v w' v' := (((Grew.refl w v).alloc _).step h3 (by simpa using h5))
  have hk : ∀ g, Far w base v.ownBlock g → g < w.heap.size → w'.heap[g]? = w.heap[g]? := fun g hf hl => hg.g.block g hl (fun e => hf.2.1 e.symm)
  refine ⟨v', w', hr, ⟨?_, ?_⟩, hg⟩
  · rw [List.length_append, List.flatMap_append]
    simpa using h2
  · intro e he
    rcases List.mem_append.1 he with he | he
    · exact (hown.rep e he).keep ⟨hg.g.size, hk⟩ fun g hf hl => far_of h5 hf hl (hk g hf hl)
    · simp at he; subst he
      exact hx.keep ⟨hg.g.size, hk⟩ fun g hf hl => far_of h5 hf hl (hk g hf hl)
/-- append of one pair -/
theorem run_app_p (ty : TypeId) (w : World) (base : Nat) (v : Value) (es : List (ByteArray × V × Value × Value)) (hown : PRow w base v es) (key : ByteArray) (x : V) (r1 r2 : Value) (cs : Array Value) (hcs : cs.toList = pc (key, x, r1, r2)) (hkey : key.size ≤ 140737488353000)
    (hx : Rep (Far w base v.ownBlock) w r1 r2 x) (hlen : es.length * 112 ≤ 140737488353100) (hbase : base ≤ w.heap.size) :
    ∃ v' w', (Builtin.append_ #[25, 25] ty #[v, .slice (some ⟨w.heap.size, 0, none⟩) 1 1]).run Tryd.prog (w.alloc (.cells cs 51)) = .ok v' w' ∧ PRow w' base v' (es ++ [(key, x, r1, r2)]) ∧ Grew w v w' v' := by
  obtain ⟨i0, hi, hz0, hz1, hz2⟩ := info_parts Tryd.info51
  obtain ⟨v', w', hr, h2, h3, _, h5⟩ := run_append_own_at (P := Tryd.prog) (w.alloc (.cells cs 51)) base 25 ty 51 i0 _ 8 112 Tryd.underlying25 hi hz0 hz1 hz2 rfl (by decide) v es.length (es.flatMap pc) (World.ownsRow.alloc hown.row _)
    ⟨w.heap.size, 0, none⟩ 1 1 (pc (key, x, r1, r2)) rfl
    (by
      intro j u hu
      have e : (⟨w.heap.size, 0, none⟩ : Addr).add j = ⟨w.heap.size, j, none⟩ := by unfold Addr.add; split <;> simp_all
      rw [e, cell_of_row _ w.heap.size j cs 51 (0, 0) (heap_alloc_new w _), ← Array.getElem?_toList, hcs]
      exact hu)
    (by
      intro u hu
      simp only [pc, List.mem_cons, List.not_mem_nil, or_false] at hu
      rcases hu with rfl | rfl | rfl | rfl | rfl | rfl | rfl | rfl <;> first | rfl | exact hx.slices.1 | exact hx.slices.2) (by unfold maxLen; omega) (by omega) (by simp; omega)
  simp only [World.size_alloc] at h5
  have hg : Grew w v w' v' := (((Grew.refl w v).alloc _).step h3 (by simpa using h5))
  have hk : ∀ g, Far w base v.ownBlock g → g < w.heap.size → w'.heap[g]? = w.heap[g]? := fun g hf hl => hg.g.block g hl (fun e => hf.2.1 e.symm)
  refine ⟨v', w', hr, ⟨?_, ?_, ?_⟩, hg⟩
  · rw [List.length_append, List.flatMap_append]
    simpa using h2
  · intro e he
    rcases List.mem_append.1 he with he | he
    · exact hown.key e he
    · simp at he; subst he; exact hkey
  · intro e he
    rcases List.mem_append.1 he with he | he
    · exact (hown.rep e he).keep ⟨hg.g.size, hk⟩ fun g hf hl => far_of h5 hf hl (hk g hf hl)
    · simp at he; subst he
      exact hx.keep ⟨hg.g.size, hk⟩ fun g hf hl => far_of h5 hf hl (hk g hf hl)

/-- as operations: in a plain region, in one that draws -/
theorem wp_app_v {w : World} {ops : Array Oper} {rest : List Oper} {o : Oper} {a : Act} {Q : Exit → Act → World → Prop} (hgd : o.guard = none) (s x : Operand)
    (ho : o.op = .call { callee := .builtin .append, args := #[s, x], argTypes := #[24, 24] }) (base : Nat) (v : Value) (es : List (V × Value × Value)) (hs : a.eval s = v) (hown : VRow w base v es)
    (y : V) (r1 r2 : Value) (cs : Array Value) (hcs : cs.toList = vc (y, r1, r2)) (hy : Rep (Far w base v.ownBlock) w r1 r2 y) (g0 : Nat) (hx : a.eval x = .slice (some ⟨g0, 0, none⟩) 1 1) (hg0 : g0 = w.heap.size) (hlen : es.length * 96 ≤ 140737488353100) (hbase : base ≤ w.heap.size)
    (h : ∀ v' w', VRow w' base v' (es ++ [(y, r1, r2)]) → Grew w v w' v' → wpList Tryd.prog ops Q rest (a.put o.dst v') w') : wpList Tryd.prog ops Q (o :: rest) a (w.alloc (.cells cs 27)) := by
  subst hg0
  refine wpList_plain hgd fun K hK => ?_
  obtain ⟨v', w', hr, h2, h3⟩ := run_app_v o.type w base v es hown y r1 r2 cs hcs hy hlen hbase
  unfold Oper.wp execOp
  simp only [ho, resolve, invoke, builtin, Sem.run_bind, Sem.run_pure, Result.andThen_ok, List.map_toArray, List.map_cons, List.map_nil, hs, hx, hr]
  exact hK _ _ (h v' w' h2 h3)
theorem wp_app_p {w : World} {ops : Array Oper} {rest : List Oper} {o : Oper} {a : Act} {Q : Exit → Act → World → Prop} (hgd : o.guard = none) (s x : Operand)
    (ho : o.op = .call { callee := .builtin .append, args := #[s, x], argTypes := #[25, 25] }) (base : Nat) (v : Value) (es : List (ByteArray × V × Value × Value)) (hs : a.eval s = v) (hown : PRow w base v es)
    (key : ByteArray) (y : V) (r1 r2 : Value) (cs : Array Value) (hcs : cs.toList = pc (key, y, r1, r2)) (hkey : key.size ≤ 140737488353000) (hy : Rep (Far w base v.ownBlock) w r1 r2 y) (g0 : Nat) (hx : a.eval x = .slice (some ⟨g0, 0, none⟩) 1 1) (hg0 : g0 = w.heap.size) (hlen : es.length * 112 ≤ 140737488353100) (hbase : base ≤ w.heap.size)
    (h : ∀ v' w', PRow w' base v' (es ++ [(key, y, r1, r2)]) → Grew w v w' v' → wpList Tryd.prog ops Q rest (a.put o.dst v') w') : wpList Tryd.prog ops Q (o :: rest) a (w.alloc (.cells cs 51)) := by
  subst hg0
  refine wpList_plain hgd fun K hK => ?_
  obtain ⟨v', w', hr, h2, h3⟩ := run_app_p o.type w base v es hown key y r1 r2 cs hcs hkey hy hlen hbase
  unfold Oper.wp execOp
  simp only [ho, resolve, invoke, builtin, Sem.run_bind, Sem.run_pure, Result.andThen_ok, List.map_toArray, List.map_cons, List.map_nil, hs, hx, hr]
  exact hK _ _ (h v' w' h2 h3)
theorem step_app_v {w : World} {ops : Array Oper} {o : Oper} {a : Act} {K : Act → World → Prop} {Q : Exit → Act → World → Prop} {E : Prop} (hgd : o.guard = none) (s x : Operand)
    (ho : o.op = .call { callee := .builtin .append, args := #[s, x], argTypes := #[24, 24] }) (base : Nat) (v : Value) (es : List (V × Value × Value)) (hs : a.eval s = v) (hown : VRow w base v es)
    (y : V) (r1 r2 : Value) (cs : Array Value) (hcs : cs.toList = vc (y, r1, r2)) (hy : Rep (Far w base v.ownBlock) w r1 r2 y) (g0 : Nat) (hx : a.eval x = .slice (some ⟨g0, 0, none⟩) 1 1) (hg0 : g0 = w.heap.size) (hlen : es.length * 96 ≤ 140737488353100) (hbase : base ≤ w.heap.size)
    (h : ∀ v' w', VRow w' base v' (es ++ [(y, r1, r2)]) → Grew w v w' v' → K (a.put o.dst v') w') :
    if Region.wanted o (yielded ops a.tmps) = true then Oper.wp Tryd.prog o a (w.alloc (.cells cs 27)) K Q else E := by
  have hw : Region.wanted o (yielded ops a.tmps) = true := by simp [Region.wanted, hgd]
  rw [if_pos hw]
  subst hg0
  obtain ⟨v', w', hr, h2, h3⟩ := run_app_v o.type w base v es hown y r1 r2 cs hcs hy hlen hbase
  unfold Oper.wp execOp
  simp only [ho, resolve, invoke, builtin, Sem.run_bind, Sem.run_pure, Result.andThen_ok, List.map_toArray, List.map_cons, List.map_nil, hs, hx, hr]
  exact h v' w' h2 h3
theorem step_app_p {w : World} {ops : Array Oper} {o : Oper} {a : Act} {K : Act → World → Prop} {Q : Exit → Act → World → Prop} {E : Prop} (hgd : o.guard = none) (s x : Operand)
    (ho : o.op = .call { callee := .builtin .append, args := #[s, x], argTypes := #[25, 25] }) (base : Nat) (v : Value) (es : List (ByteArray × V × Value × Value)) (hs : a.eval s = v) (hown : PRow w base v es)
    (key : ByteArray) (y : V) (r1 r2 : Value) (cs : Array Value) (hcs : cs.toList = pc (key, y, r1, r2)) (hkey : key.size ≤ 140737488353000) (hy : Rep (Far w base v.ownBlock) w r1 r2 y) (g0 : Nat) (hx : a.eval x = .slice (some ⟨g0, 0, none⟩) 1 1) (hg0 : g0 = w.heap.size) (hlen : es.length * 112 ≤ 140737488353100) (hbase : base ≤ w.heap.size)
    (h : ∀ v' w', PRow w' base v' (es ++ [(key, y, r1, r2)]) → Grew w v w' v' → K (a.put o.dst v') w') :
    if Region.wanted o (yielded ops a.tmps) = true then Oper.wp Tryd.prog o a (w.alloc (.cells cs 51)) K Q else E := by
  have hw : Region.wanted o (yielded ops a.tmps) = true := by simp [Region.wanted, hgd]
  rw [if_pos hw]
  subst hg0
  obtain ⟨v', w', hr, h2, h3⟩ := run_app_p o.type w base v es hown key y r1 r2 cs hcs hkey hy hlen hbase
  unfold Oper.wp execOp
  simp only [ho, resolve, invoke, builtin, Sem.run_bind, Sem.run_pure, Result.andThen_ok, List.map_toArray, List.map_cons, List.map_nil, hs, hx, hr]
  exact h v' w' h2 h3

/-- a store into the list of a value in a box; into its pairs -/
theorem box_list {w : World} {g : Nat} {x : V} {q1 q2 : Value} {t : TypeId} (h : w.heap[g]? = some (.cells (cv x q1 q2) t (0, 0))) (u : Value) : (w.setCell ⟨g, 5, none⟩ u).heap[g]? = some (.cells (cv x u q2) t (0, 0)) := by
  have hlt := lt_of_block h
  have h' : w.heap[g] = .cells (cv x q1 q2) t (0, 0) := by simpa [Array.getElem?_eq_getElem hlt] using h
  show (w.heap.modify g _)[g]? = _
  rw [Array.getElem?_eq_getElem (by simpa using hlt), Array.getElem_modify_self, h']
  rfl
theorem box_pairs {w : World} {g : Nat} {x : V} {q1 q2 : Value} {t : TypeId} (h : w.heap[g]? = some (.cells (cv x q1 q2) t (0, 0))) (u : Value) : (w.setCell ⟨g, 6, none⟩ u).heap[g]? = some (.cells (cv x q1 u) t (0, 0)) := by
  have hlt := lt_of_block h
  have h' : w.heap[g] = .cells (cv x q1 q2) t (0, 0) := by simpa [Array.getElem?_eq_getElem hlt] using h
  show (w.heap.modify g _)[g]? = _
  rw [Array.getElem?_eq_getElem (by simpa using hlt), Array.getElem_modify_self, h']
  rfl
end Go.Proofs.YtnnnnlcpmocnfaaDoor
