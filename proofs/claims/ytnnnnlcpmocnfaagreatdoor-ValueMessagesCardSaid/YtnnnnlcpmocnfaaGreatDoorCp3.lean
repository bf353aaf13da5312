/- ROWS OF VALUES AND OF PAIRS OF THE CALL's OWN. -/
import Derived.Test.YtnnnnlcpmocnfaaGreatDoorVop
import Derived.Deep.AppendLies
import Derived.Deep.RegionHeld3
import Derived.Deep.RegionLaw
import Derived.StillTailTactics
import Derived.WalkLawsBesides
import Derived.Outline
namespace Go.Proofs.YtnnnnlcpmocnfaaGreatDoor
open Go.RowKit
set_option linter.unusedVariables false

/-- an element's cells: a value; a pair -/
def vc (e : V × Value × Value) : List Value := [.int .u8 e.1.k, .string e.1.s, .bool e.1.b, .int .i64 e.1.n, .float .f64 e.1.f, e.2.1, e.2.2]
def pc (e : ByteArray × V × Value × Value) : List Value := [.string e.1, .int .u8 e.2.1.k, .string e.2.1.s, .bool e.2.1.b, .int .i64 e.2.1.n, .float .f64 e.2.1.f, e.2.2.1, e.2.2.2]

theorem fm_len {α : Type} {f : α → List Value} {z : Nat} (hz : ∀ a, (f a).length = z) (es : List α) : (es.flatMap f).length = es.length * z := by
  induction es with
  | nil => simp
  | cons e es ih => rw [List.flatMap_cons, List.length_append, ih, hz, List.length_cons, Nat.add_mul]; omega
theorem fm_at {α : Type} {f : α → List Value} {z : Nat} (hz : ∀ a, (f a).length = z) (es : List α) : ∀ (i : Nat) (e : α), es[i]? = some e → ∀ j, j < z → (es.flatMap f)[i * z + j]? = (f e)[j]? := by
  induction es with
  | nil => intro i e h; simp at h
  | cons x es ih =>
    intro i e h j hj
    rw [List.flatMap_cons]
    cases i with
    | zero =>
      simp at h; subst h
      rw [List.getElem?_append_left (by rw [hz]; omega)]
      simp
    | succ i =>
      rw [List.getElem?_append_right (by rw [hz, Nat.add_mul]; omega)]
      have e' : (i + 1) * z + j - (f x).length = i * z + j := by rw [hz, Nat.add_mul]; omega
      rw [e']
      exact ih i e (by simpa using h) j hj
theorem vc_len (e : V × Value × Value) : (vc e).length = 7 := rfl
theorem pc_len (e : ByteArray × V × Value × Value) : (pc e).length = 8 := rfl

/-- the slice's own block, and all blocks ahead of base, are not met -/
def Free (w : World) (g : Nat) : Prop := ∃ cs t, w.heap[g]? = some (.cells cs t (0, 0))
theorem Free.keep {w w' : World} {g : Nat} (e : w'.heap[g]? = w.heap[g]?) (h : Free w g) : Free w' g := by obtain ⟨cs, t, h⟩ := h; exact ⟨cs, t, e.trans h⟩
def Far (w : World) (base : Nat) (o : Option Nat) (g : Nat) : Prop := base ≤ g ∧ o ≠ some g ∧ Free w g
/-- new memory, which may be written -/
def New (b : Nat) (w : World) (g : Nat) : Prop := b ≤ g ∧ Free w g

/-- the slice v of the call's own has the values es, whose lists lie elsewhere -/
structure VRow (w : World) (base : Nat) (v : Value) (es : List (V × Value × Value)) : Prop where
  row : w.ownsRow base 27 7 v es.length (es.flatMap vc)
  rep : ∀ e ∈ es, Rep (Far w base v.ownBlock) w e.2.1 e.2.2 e.1
/-- the slice v of the call's own has the pairs es -/
structure PRow (w : World) (base : Nat) (v : Value) (es : List (ByteArray × V × Value × Value)) : Prop where
  row : w.ownsRow base 29 8 v es.length (es.flatMap pc)
  key : ∀ e ∈ es, e.1.size ≤ 140737488353000
  rep : ∀ e ∈ es, Rep (Far w base v.ownBlock) w e.2.2.1 e.2.2.2 e.2.1

theorem VRow.nil (w : World) (base : Nat) : VRow w base (.slice none 0 0) [] := ⟨World.ownsRow_nil _ _ _ _, fun e h => by cases h⟩
theorem PRow.nil (w : World) (base : Nat) : PRow w base (.slice none 0 0) [] := ⟨World.ownsRow_nil _ _ _ _, (fun e h => nomatch h), (fun e h => nomatch h)⟩
theorem VRow.form {w : World} {base : Nat} {v : Value} {es : List (V × Value × Value)} (h : VRow w base v es) : ∃ ad cap, v = .slice ad es.length cap := by
  rcases h.row.2 with ⟨hv, hn⟩ | ⟨g, cap, cur, hv, _⟩
  · exact ⟨none, 0, by rw [hv, hn]⟩
  · exact ⟨_, cap, hv⟩
theorem PRow.form {w : World} {base : Nat} {v : Value} {es : List (ByteArray × V × Value × Value)} (h : PRow w base v es) : ∃ ad cap, v = .slice ad es.length cap := by
  rcases h.row.2 with ⟨hv, hn⟩ | ⟨g, cap, cur, hv, _⟩
  · exact ⟨none, 0, by rw [hv, hn]⟩
  · exact ⟨_, cap, hv⟩
theorem VRow.lt {w : World} {base : Nat} {v : Value} {es : List (V × Value × Value)} (h : VRow w base v es) : ∀ k, v.ownBlock = some k → base ≤ k ∧ k < w.heap.size := World.ownsRow.lt h.row
theorem PRow.lt {w : World} {base : Nat} {v : Value} {es : List (ByteArray × V × Value × Value)} (h : PRow w base v es) : ∀ k, v.ownBlock = some k → base ≤ k ∧ k < w.heap.size := World.ownsRow.lt h.row

/-- all from base on is as it was -/
theorem kept_of {w w' : World} {base : Nat} {o : Option Nat} (h : ∀ g, base ≤ g → g < w.heap.size → w'.heap[g]? = w.heap[g]?) (hs : w.heap.size ≤ w'.heap.size) : Kept (Far w base o) w w' := ⟨hs, fun g hg hl => h g hg.1 hl⟩
theorem row_keep {w w' : World} {base : Nat} {e : TypeId} {size : Nat} {v : Value} {n : Nat} {xs : List Value} (h : w.ownsRow base e size v n xs) (hb : ∀ g, base ≤ g → g < w.heap.size → w'.heap[g]? = w.heap[g]?) : w'.ownsRow base e size v n xs := by
  refine ⟨h.1, ?_⟩
  rcases h.2 with h2 | ⟨g, cap, cur, hv, hbg, hg, r⟩
  · exact .inl h2
  · exact .inr ⟨g, cap, cur, hv, hbg, (hb g hbg (Array.getElem?_eq_some_iff.1 hg).1).trans hg, r⟩
theorem VRow.keep {w w' : World} {base : Nat} {v : Value} {es : List (V × Value × Value)} (h : VRow w base v es) (hb : ∀ g, base ≤ g → g < w.heap.size → w'.heap[g]? = w.heap[g]?) (hs : w.heap.size ≤ w'.heap.size) : VRow w' base v es :=
  ⟨row_keep h.row hb, fun e he => (h.rep e he).keep (kept_of hb hs) fun g h hl => ⟨h.1, h.2.1, h.2.2.keep (hb g h.1 hl)⟩⟩
theorem PRow.keep {w w' : World} {base : Nat} {v : Value} {es : List (ByteArray × V × Value × Value)} (h : PRow w base v es) (hb : ∀ g, base ≤ g → g < w.heap.size → w'.heap[g]? = w.heap[g]?) (hs : w.heap.size ≤ w'.heap.size) : PRow w' base v es :=
  ⟨row_keep h.row hb, h.key, fun e he => (h.rep e he).keep (kept_of hb hs) fun g h hl => ⟨h.1, h.2.1, h.2.2.keep (hb g h.1 hl)⟩⟩
theorem VRow.under {w w' : World} {base : Nat} {v : Value} {es : List (V × Value × Value)} (h : VRow w base v es) (hb : Below w.heap.size w w') : VRow w' base v es := h.keep (fun g _ hl => hb.block g hl) hb.size
theorem PRow.under {w w' : World} {base : Nat} {v : Value} {es : List (ByteArray × V × Value × Value)} (h : PRow w base v es) (hb : Below w.heap.size w w') : PRow w' base v es := h.keep (fun g _ hl => hb.block g hl) hb.size
theorem row_mono {w : World} {base base' : Nat} {e : TypeId} {size : Nat} {v : Value} {n : Nat} {xs : List Value} (h : w.ownsRow base e size v n xs) (hb : base' ≤ base) : w.ownsRow base' e size v n xs := by
  refine ⟨h.1, ?_⟩
  rcases h.2 with h2 | ⟨g, cap, cur, hv, hg, r⟩
  · exact .inl h2
  · exact .inr ⟨g, cap, cur, hv, Nat.le_trans hb hg, r⟩
theorem VRow.mono {w : World} {base base' : Nat} {v : Value} {es : List (V × Value × Value)} (h : VRow w base v es) (hb : base' ≤ base) : VRow w base' v es :=
  ⟨row_mono h.row hb, fun e he => (h.rep e he).keep (Kept.of_below (Below.refl _ _) _) fun g hg _ => ⟨Nat.le_trans hb hg.1, hg.2⟩⟩
theorem PRow.mono {w : World} {base base' : Nat} {v : Value} {es : List (ByteArray × V × Value × Value)} (h : PRow w base v es) (hb : base' ≤ base) : PRow w base' v es :=
  ⟨row_mono h.row hb, h.key, fun e he => (h.rep e he).keep (Kept.of_below (Below.refl _ _) _) fun g hg _ => ⟨Nat.le_trans hb hg.1, hg.2⟩⟩

/-- a row read as data -/
theorem VRow.data {w : World} {base : Nat} {v : Value} {es : List (V × Value × Value)} (h : VRow w base v es) (hl : es.length ≤ 9223372036854775807) : RepL (New base w) w v (es.map (·.1)) := by
  rcases h.row.2 with ⟨rfl, hn⟩ | ⟨g, cap, cur, rfl, hbg, hg, _, _, _, _⟩
  · have hx : es = [] := List.eq_nil_of_length_eq_zero hn
    subst hx
    exact RepL.nil _ _
  · refine ⟨g, 0, fun i => ((es[i]?).map (·.2.1)).getD (.bool true), fun i => ((es[i]?).map (·.2.2)).getD (.bool true), ⟨_, cap, by rw [List.length_map], by simpa using hl, fun _ => ⟨rfl, ⟨hbg, _, _, hg⟩, (Array.getElem?_eq_some_iff.1 hg).1⟩⟩, fun i y hy => ?_⟩
    rw [List.getElem?_map, Option.map_eq_some_iff] at hy
    obtain ⟨e, he, rfl⟩ := hy
    simp only [he, Option.map_some, Option.getD_some]
    have hcell : ∀ j u, j < 7 → (vc e)[j]? = some u → w.cell? ⟨g, 0 + i * 7 + j, none⟩ = some u := fun j u hj hu => by
      have := World.ownsRow.cells h.row (g := g) rfl (i * 7 + j) u (by rw [fm_at vc_len es i e he j hj]; exact hu)
      rwa [show (⟨g, 0, none⟩ : Addr).add (i * 7 + j) = ⟨g, 0 + i * 7 + j, none⟩ by unfold Addr.add; split <;> simp_all] at this
    exact ⟨⟨hcell 0 _ (by omega) rfl, hcell 1 _ (by omega) rfl, hcell 2 _ (by omega) rfl, hcell 3 _ (by omega) rfl, hcell 4 _ (by omega) rfl, hcell 5 _ (by omega) rfl, hcell 6 _ (by omega) rfl⟩,
      (h.rep e (List.mem_of_getElem? he)).keep (Kept.of_below (Below.refl _ _) _) fun g hg _ => ⟨hg.1, hg.2.2⟩⟩
/-- the pairs of a row -/
def kv (e : ByteArray × V × Value × Value) : ByteArray × V := (e.1, e.2.1)
theorem PRow.data {w : World} {base : Nat} {v : Value} {es : List (ByteArray × V × Value × Value)} (h : PRow w base v es) (hl : es.length ≤ 9223372036854775807) : RepP (New base w) w v (es.map kv) := by
  rcases h.row.2 with ⟨rfl, hn⟩ | ⟨g, cap, cur, rfl, hbg, hg, _, _, _, _⟩
  · have hx : es = [] := List.eq_nil_of_length_eq_zero hn
    subst hx
    exact RepP.nil _ _
  · refine ⟨g, 0, fun i => ((es[i]?).map (·.2.2.1)).getD (.bool true), fun i => ((es[i]?).map (·.2.2.2)).getD (.bool true), ⟨_, cap, by rw [List.length_map], by simpa using hl, fun _ => ⟨rfl, ⟨hbg, _, _, hg⟩, (Array.getElem?_eq_some_iff.1 hg).1⟩⟩, fun i y hy => ?_⟩
    rw [List.getElem?_map, Option.map_eq_some_iff] at hy
    obtain ⟨e, he, rfl⟩ := hy
    simp only [he, Option.map_some, Option.getD_some]
    have hcell : ∀ j u, j < 8 → (pc e)[j]? = some u → w.cell? ⟨g, 0 + i * 8 + j, none⟩ = some u := fun j u hj hu => by
      have := World.ownsRow.cells h.row (g := g) rfl (i * 8 + j) u (by rw [fm_at pc_len es i e he j hj]; exact hu)
      rwa [show (⟨g, 0, none⟩ : Addr).add (i * 8 + j) = ⟨g, 0 + i * 8 + j, none⟩ by unfold Addr.add; split <;> simp_all] at this
    exact ⟨⟨hcell 0 _ (by omega) rfl, hcell 1 _ (by omega) rfl, hcell 2 _ (by omega) rfl, hcell 3 _ (by omega) rfl, hcell 4 _ (by omega) rfl, hcell 5 _ (by omega) rfl, hcell 6 _ (by omega) rfl, hcell 7 _ (by omega) rfl⟩,
      h.key e (List.mem_of_getElem? he), (h.rep e (List.mem_of_getElem? he)).keep (Kept.of_below (Below.refl _ _) _) fun g hg _ => ⟨hg.1, hg.2.2⟩⟩

theorem Tryz.info27 : (Tryz.prog.info? 27).map (fun i => (i.zero, i.size, i.bytes)) = some (some (.agg #[.int .u8 0, .string ⟨#[]⟩, .bool false, .int .i64 0, .float .f64 0, .slice none 0 0, .slice none 0 0]), 7, 96) := by kernel_rfl
theorem Tryz.info29 : (Tryz.prog.info? 29).map (fun i => (i.zero, i.size, i.bytes)) = some (some (.agg #[.string ⟨#[]⟩, .int .u8 0, .string ⟨#[]⟩, .bool false, .int .i64 0, .float .f64 0, .slice none 0 0, .slice none 0 0]), 8, 112) := by kernel_rfl

theorem far_of {w w' : World} {base : Nat} {v v' : Value} {g : Nat} (o : v'.ownBlock = v.ownBlock ∨ v'.ownBlock = some (w.heap.size + 1)) (h : Far w base v.ownBlock g) (hg : g < w.heap.size) (e : w'.heap[g]? = w.heap[g]?) : Far w' base v'.ownBlock g := by
  refine ⟨h.1, ?_, h.2.2.keep e⟩
  rcases o with o | o
  · rw [o]; exact h.2.1
  · rw [o]; intro e; injection e with e; omega
theorem slice_one {q : Value} (h : ∃ ad n cap, q = Value.slice ad n cap) : q.oneCell' = true := by obtain ⟨ad, n, cap, rfl⟩ := h; rfl
theorem Rep.slices {S : Nat → Prop} {w : World} {q1 q2 : Value} {x : V} (h : Rep S w q1 q2 x) : q1.oneCell' = true ∧ q2.oneCell' = true := by
  obtain ⟨ad, cap, e, _⟩ := h.parts.2.1.form
  obtain ⟨ad', cap', e', _⟩ := h.parts.2.2.form
  exact ⟨slice_one ⟨_, _, _, e⟩, slice_one ⟨_, _, _, e'⟩⟩

/-- append of one value -/
theorem run_app_v (ty : TypeId) (w : World) (base : Nat) (v : Value) (es : List (V × Value × Value)) (hown : VRow w base v es) (x : V) (r1 r2 : Value) (cs : Array Value) (hcs : cs.toList = vc (x, r1, r2)) (hx : Rep (Far w base v.ownBlock) w r1 r2 x)
    (hlen : es.length * 96 ≤ 140737488353100) (hbase : base ≤ w.heap.size) :
    ∃ v' w', (Builtin.append_ #[24, 24] ty #[v, .slice (some ⟨w.heap.size, 0, none⟩) 1 1]).run Tryz.prog (w.alloc (.cells cs 27)) = .ok v' w' ∧ VRow w' base v' (es ++ [(x, r1, r2)]) ∧ Grew w v w' v' := by
  obtain ⟨i0, hi, hz0, hz1, hz2⟩ := info_parts Tryz.info27
  obtain ⟨v', w', hr, h2, h3, _, h5⟩ := run_append_own_at (P := Tryz.prog) (w.alloc (.cells cs 27)) base 24 ty 27 i0 _ 7 96 Tryz.underlying24 hi hz0 hz1 hz2 rfl (by decide) v es.length (es.flatMap vc) (World.ownsRow.alloc hown.row _)
    ⟨w.heap.size, 0, none⟩ 1 1 (vc (x, r1, r2)) rfl
    (by
      intro j u hu
      have e : (⟨w.heap.size, 0, none⟩ : Addr).add j = ⟨w.heap.size, j, none⟩ := by unfold Addr.add; split <;> simp_all
      rw [e, cell_of_row _ w.heap.size j cs 27 (0, 0) (heap_alloc_new w _), ← Array.getElem?_toList, hcs]
      exact hu)
    (by
      intro u hu
      simp only [vc, List.mem_cons, List.not_mem_nil, or_false] at hu
      rcases hu with rfl | rfl | rfl | rfl | rfl | rfl | rfl <;> first | rfl | exact hx.slices.1 | exact hx.slices.2) (by unfold maxLen; omega) (by omega) (by simp; omega)
  simp only [World.size_alloc] at h5
  have hg : Grew w v w' v' := (((Grew.refl w v).alloc _).step h3 (by simpa using h5))
  have hk : ∀ g, Far w base v.ownBlock g → g < w.heap.size → w'.heap[g]? = w.heap[g]? := fun g hf hl => hg.g.block g hl (fun e => hf.2.1 e.symm)
  refine ⟨v', w', hr, ⟨?_, ?_⟩, hg⟩
  · rw [List.length_append, List.flatMap_append]
    simpa using h2
  · intro e he
    rcases List.mem_append.1 he with he | he
    · exact (hown.rep e he).keep ⟨hg.g.size, hk⟩ fun g hf hl => far_of h5 hf hl (hk g hf hl)
    · simp at he; subst he
      exact hx.keep ⟨hg.g.size, hk⟩ fun g hf hl => far_of h5 hf hl (hk g hf hl)
/-- append of one pair -/
theorem run_app_p (ty : TypeId) (w : World) (base : Nat) (v : Value) (es : List (ByteArray × V × Value × Value)) (hown : PRow w base v es) (key : ByteArray) (x : V) (r1 r2 : Value) (cs : Array Value) (hcs : cs.toList = pc (key, x, r1, r2)) (hkey : key.size ≤ 140737488353000)
    (hx : Rep (Far w base v.ownBlock) w r1 r2 x) (hlen : es.length * 112 ≤ 140737488353100) (hbase : base ≤ w.heap.size) :
    ∃ v' w', (Builtin.append_ #[25, 25] ty #[v, .slice (some ⟨w.heap.size, 0, none⟩) 1 1]).run Tryz.prog (w.alloc (.cells cs 29)) = .ok v' w' ∧ PRow w' base v' (es ++ [(key, x, r1, r2)]) ∧ Grew w v w' v' := by
  obtain ⟨i0, hi, hz0, hz1, hz2⟩ := info_parts Tryz.info29
  obtain ⟨v', w', hr, h2, h3, _, h5⟩ := run_append_own_at (P := Tryz.prog) (w.alloc (.cells cs 29)) base 25 ty 29 i0 _ 8 112 Tryz.underlying25 hi hz0 hz1 hz2 rfl (by decide) v es.length (es.flatMap pc) (World.ownsRow.alloc hown.row _)
    ⟨w.heap.size, 0, none⟩ 1 1 (pc (key, x, r1, r2)) rfl
    (by
      intro j u hu
      have e : (⟨w.heap.size, 0, none⟩ : Addr).add j = ⟨w.heap.size, j, none⟩ := by unfold Addr.add; split <;> simp_all
      rw [e, cell_of_row _ w.heap.size j cs 29 (0, 0) (heap_alloc_new w _), ← Array.getElem?_toList, hcs]
      exact hu)
    (by
      intro u hu
      simp only [pc, List.mem_cons, List.not_mem_nil, or_false] at hu
      rcases hu with rfl | rfl | rfl | rfl | rfl | rfl | rfl | rfl <;> first | rfl | exact hx.slices.1 | exact hx.slices.2) (by unfold maxLen; omega) (by omega) (by simp; omega)
  simp only [World.size_alloc] at h5
  have hg : Grew w v w' v' := (((Grew.refl w v).alloc _).step h3 (by simpa using h5))
  have hk : ∀ g, Far w base v.ownBlock g → g < w.heap.size → w'.heap[g]? = w.heap[g]? := fun g hf hl => hg.g.block g hl (fun e => hf.2.1 e.symm)
  refine ⟨v', w', hr, ⟨?_, ?_, ?_⟩, hg⟩
  · rw [List.length_append, List.flatMap_append]
    simpa using h2
  · intro e he
    rcases List.mem_append.1 he with he | he
    · exact hown.key e he
    · simp at he; subst he; exact hkey
  · intro e he
    rcases List.mem_append.1 he with he | he
    · exact (hown.rep e he).keep ⟨hg.g.size, hk⟩ fun g hf hl => far_of h5 hf hl (hk g hf hl)
    · simp at he; subst he
      exact hx.keep ⟨hg.g.size, hk⟩ fun g hf hl => far_of h5 hf hl (hk g hf hl)

/-- as operations: in a plain region, in one that draws -/
theorem wp_app_v {w : World} {ops : Array Oper} {rest : List Oper} {o : Oper} {a : Act} {Q : Exit → Act → World → Prop} (hgd : o.guard = none) (s x : Operand)
    (ho : o.op = .call { callee := .builtin .append, args := #[s, x], argTypes := #[24, 24] }) (base : Nat) (v : Value) (es : List (V × Value × Value)) (hs : a.eval s = v) (hown : VRow w base v es)
    (y : V) (r1 r2 : Value) (cs : Array Value) (hcs : cs.toList = vc (y, r1, r2)) (hy : Rep (Far w base v.ownBlock) w r1 r2 y) (g0 : Nat) (hx : a.eval x = .slice (some ⟨g0, 0, none⟩) 1 1) (hg0 : g0 = w.heap.size) (hlen : es.length * 96 ≤ 140737488353100) (hbase : base ≤ w.heap.size)
    (h : ∀ v' w', VRow w' base v' (es ++ [(y, r1, r2)]) → Grew w v w' v' → wpList Tryz.prog ops Q rest (a.put o.dst v') w') : wpList Tryz.prog ops Q (o :: rest) a (w.alloc (.cells cs 27)) := by
  subst hg0
  refine wpList_plain hgd fun K hK => ?_
  obtain ⟨v', w', hr, h2, h3⟩ := run_app_v o.type w base v es hown y r1 r2 cs hcs hy hlen hbase
  unfold Oper.wp execOp
  simp only [ho, resolve, invoke, builtin, Sem.run_bind, Sem.run_pure, Result.andThen_ok, List.map_toArray, List.map_cons, List.map_nil, hs, hx, hr]
  exact hK _ _ (h v' w' h2 h3)
theorem wp_app_p {w : World} {ops : Array Oper} {rest : List Oper} {o : Oper} {a : Act} {Q : Exit → Act → World → Prop} (hgd : o.guard = none) (s x : Operand)
    (ho : o.op = .call { callee := .builtin .append, args := #[s, x], argTypes := #[25, 25] }) (base : Nat) (v : Value) (es : List (ByteArray × V × Value × Value)) (hs : a.eval s = v) (hown : PRow w base v es)
    (key : ByteArray) (y : V) (r1 r2 : Value) (cs : Array Value) (hcs : cs.toList = pc (key, y, r1, r2)) (hkey : key.size ≤ 140737488353000) (hy : Rep (Far w base v.ownBlock) w r1 r2 y) (g0 : Nat) (hx : a.eval x = .slice (some ⟨g0, 0, none⟩) 1 1) (hg0 : g0 = w.heap.size) (hlen : es.length * 112 ≤ 140737488353100) (hbase : base ≤ w.heap.size)
    (h : ∀ v' w', PRow w' base v' (es ++ [(key, y, r1, r2)]) → Grew w v w' v' → wpList Tryz.prog ops Q rest (a.put o.dst v') w') : wpList Tryz.prog ops Q (o :: rest) a (w.alloc (.cells cs 29)) := by
  subst hg0
  refine wpList_plain hgd fun K hK => ?_
  obtain ⟨v', w', hr, h2, h3⟩ := run_app_p o.type w base v es hown key y r1 r2 cs hcs hkey hy hlen hbase
  unfold Oper.wp execOp
  simp only [ho, resolve, invoke, builtin, Sem.run_bind, Sem.run_pure, Result.andThen_ok, List.map_toArray, List.map_cons, List.map_nil, hs, hx, hr]
  exact hK _ _ (h v' w' h2 h3)
theorem step_app_v {w : World} {ops : Array Oper} {o : Oper} {a : Act} {K : Act → World → Prop} {Q : Exit → Act → World → Prop} {E : Prop} (hgd : o.guard = none) (s x : Operand)
    (ho : o.op = .call { callee := .builtin .append, args := #[s, x], argTypes := #[24, 24] }) (base : Nat) (v : Value) (es : List (V × Value × Value)) (hs : a.eval s = v) (hown : VRow w base v es)
    (y : V) (r1 r2 : Value) (cs : Array Value) (hcs : cs.toList = vc (y, r1, r2)) (hy : Rep (Far w base v.ownBlock) w r1 r2 y) (g0 : Nat) (hx : a.eval x = .slice (some ⟨g0, 0, none⟩) 1 1) (hg0 : g0 = w.heap.size) (hlen : es.length * 96 ≤ 140737488353100) (hbase : base ≤ w.heap.size)
    (h : ∀ v' w', VRow w' base v' (es ++ [(y, r1, r2)]) → Grew w v w' v' → K (a.put o.dst v') w') :
    if Region.wanted o (yielded ops a.tmps) = true then Oper.wp Tryz.prog o a (w.alloc (.cells cs 27)) K Q else E := by
  have hw : Region.wanted o (yielded ops a.tmps) = true := by simp [Region.wanted, hgd]
  rw [if_pos hw]
  subst hg0
  obtain ⟨v', w', hr, h2, h3⟩ := run_app_v o.type w base v es hown y r1 r2 cs hcs hy hlen hbase
  unfold Oper.wp execOp
  simp only [ho, resolve, invoke, builtin, Sem.run_bind, Sem.run_pure, Result.andThen_ok, List.map_toArray, List.map_cons, List.map_nil, hs, hx, hr]
  exact h v' w' h2 h3
theorem step_app_p {w : World} {ops : Array Oper} {o : Oper} {a : Act} {K : Act → World → Prop} {Q : Exit → Act → World → Prop} {E : Prop} (hgd : o.guard = none) (s x : Operand)
    (ho : o.op = .call { callee := .builtin .append, args := #[s, x], argTypes := #[25, 25] }) (base : Nat) (v : Value) (es : List (ByteArray × V × Value × Value)) (hs : a.eval s = v) (hown : PRow w base v es)
    (key : ByteArray) (y : V) (r1 r2 : Value) (cs : Array Value) (hcs : cs.toList = pc (key, y, r1, r2)) (hkey : key.size ≤ 140737488353000) (hy : Rep (Far w base v.ownBlock) w r1 r2 y) (g0 : Nat) (hx : a.eval x = .slice (some ⟨g0, 0, none⟩) 1 1) (hg0 : g0 = w.heap.size) (hlen : es.length * 112 ≤ 140737488353100) (hbase : base ≤ w.heap.size)
    (h : ∀ v' w', PRow w' base v' (es ++ [(key, y, r1, r2)]) → Grew w v w' v' → K (a.put o.dst v') w') :
    if Region.wanted o (yielded ops a.tmps) = true then Oper.wp Tryz.prog o a (w.alloc (.cells cs 29)) K Q else E := by
  have hw : Region.wanted o (yielded ops a.tmps) = true := by simp [Region.wanted, hgd]
  rw [if_pos hw]
  subst hg0
  obtain ⟨v', w', hr, h2, h3⟩ := run_app_p o.type w base v es hown key y r1 r2 cs hcs hkey hy hlen hbase
  unfold Oper.wp execOp
  simp only [ho, resolve, invoke, builtin, Sem.run_bind, Sem.run_pure, Result.andThen_ok, List.map_toArray, List.map_cons, List.map_nil, hs, hx, hr]
  exact h v' w' h2 h3

/-- a store into the list of a value in a box; into its pairs -/
theorem box_list {w : World} {g : Nat} {x : V} {q1 q2 : Value} {t : TypeId} (h : w.heap[g]? = some (.cells (cv x q1 q2) t (0, 0))) (u : Value) : (w.setCell ⟨g, 5, none⟩ u).heap[g]? = some (.cells (cv x u q2) t (0, 0)) := by
  have hlt := lt_of_block h
  have h' : w.heap[g] = .cells (cv x q1 q2) t (0, 0) := by simpa [Array.getElem?_eq_getElem hlt] using h
  show (w.heap.modify g _)[g]? = _
  rw [Array.getElem?_eq_getElem (by simpa using hlt), Array.getElem_modify_self, h']
  rfl
theorem box_pairs {w : World} {g : Nat} {x : V} {q1 q2 : Value} {t : TypeId} (h : w.heap[g]? = some (.cells (cv x q1 q2) t (0, 0))) (u : Value) : (w.setCell ⟨g, 6, none⟩ u).heap[g]? = some (.cells (cv x q1 u) t (0, 0)) := by
  have hlt := lt_of_block h
  have h' : w.heap[g] = .cells (cv x q1 q2) t (0, 0) := by simpa [Array.getElem?_eq_getElem hlt] using h
  show (w.heap.modify g _)[g]? = _
  rw [Array.getElem?_eq_getElem (by simpa using hlt), Array.getElem_modify_self, h']
  rfl
end Go.Proofs.YtnnnnlcpmocnfaaGreatDoor

/- THE WALKS OVER copied, copiedPair, copiedPairs, the program's. -/
namespace Go.Proofs.YtnnnnlcpmocnfaaGreatDoor
open Go.RowKit
set_option linter.unusedVariables false
set_option linter.unusedSimpArgs false
attribute [local go_sem] run_store_float

/-- what a copy leaves -/
def Copied (x : V) (w : World) (e : Ending) (w' : World) : Prop := ∃ r1 r2, e = .returned (.agg (cv x r1 r2)) ∧ Rep (New w.heap.size w') w' r1 r2 x ∧ Below w.heap.size w w'
def CopiedP (l : List (ByteArray × V)) (w : World) (e : Ending) (w' : World) : Prop := ∃ v es, e = .returned v ∧ PRow w' w.heap.size v es ∧ es.map kv = l ∧ Below w.heap.size w w'
def Copied1 (k : ByteArray) (x : V) (w : World) (e : Ending) (w' : World) : Prop := ∃ r1 r2, e = .returned (.agg (pv k x r1 r2)) ∧ Rep (New w.heap.size w') w' r1 r2 x ∧ Below w.heap.size w w'
def CopyC (F : Nat) (x : V) : Prop := ∀ (w : World) (q1 q2 : Value), Rep Any w q1 q2 x → Calls Tryz.prog F #[.agg (cv x q1 q2)] w (Copied x w)
def CopyPC (F : Nat) (l : List (ByteArray × V)) : Prop := ∀ (w : World) (q : Value), RepP Any w q l → l.length * 112 ≤ 140737488353000 → Calls Tryz.prog F #[q] w (CopiedP l w)

def zero7 : Array Value := #[.int .u8 0, .string ⟨#[]⟩, .bool false, .int .i64 0, .float .f64 0, .slice none 0 0, .slice none 0 0]
/-- where copied stands behind k rounds -/
structure CInv (x : V) (q2 : Value) (w : World) (n : Nat) (k : Nat) (cur : Value) (es : List (V × Value × Value)) (wr : World) : Prop where
  box : wr.heap[w.heap.size]? = some (.cells (cv x cur q2) 27 (0, 0))
  res : wr.heap[w.heap.size + 1]? = some (.cells #[.int .u8 0, .string ⟨#[]⟩, .bool false, .int .i64 0, .float .f64 0, .slice none 0 0, .slice none 0 0] 27 (0, 0))
  row : VRow wr (w.heap.size + 2) cur es
  eq : es.map (·.1) = x.l.take k
  bel : Below w.heap.size w wr
theorem below_drew {W w1 : World} (h : Below W.drew.heap.size W.drew w1) : Below W.heap.size W w1 := ⟨h.os, h.tape, h.output, h.size, h.block⟩
theorem far_new {W w1 : World} {base : Nat} {v : Value} {es : List (V × Value × Value)} {r1 r2 : Value} {a : V} (hrow : VRow W base v es) (hr : Rep (New W.drew.heap.size w1) w1 r1 r2 a) (hb : base ≤ W.heap.size) : Rep (Far w1 base v.ownBlock) w1 r1 r2 a :=
  hr.keep (Kept.of_below (Below.refl _ _) _) fun g hg _ => ⟨Nat.le_trans hb hg.1, (fun e => by have := (hrow.lt g e).2; have hg' : W.heap.size ≤ g := hg.1; omega), hg.2⟩
theorem far_newP {W w1 : World} {base : Nat} {v : Value} {es : List (ByteArray × V × Value × Value)} {r1 r2 : Value} {a : V} (hrow : PRow W base v es) (hr : Rep (New W.drew.heap.size w1) w1 r1 r2 a) (hb : base ≤ W.heap.size) : Rep (Far w1 base v.ownBlock) w1 r1 r2 a :=
  hr.keep (Kept.of_below (Below.refl _ _) _) fun g hg _ => ⟨Nat.le_trans hb hg.1, (fun e => by have := (hrow.lt g e).2; have hg' : W.heap.size ≤ g := hg.1; omega), hg.2⟩
/-- what stood in the two boxes -/
def Two (w' : World) (g h : Nat) (a : V) (c d cur : Value) : Prop := (w'.cell? ⟨g, 0, none⟩ = some (.int .u8 a.k) ∧ w'.cell? ⟨g, 1, none⟩ = some (.string a.s) ∧ w'.cell? ⟨g, 2, none⟩ = some (.bool a.b) ∧ w'.cell? ⟨g, 3, none⟩ = some (.int .i64 a.n) ∧ w'.cell? ⟨g, 4, none⟩ = some (.float .f64 a.f) ∧ w'.cell? ⟨g, 5, none⟩ = some c ∧ w'.cell? ⟨g, 6, none⟩ = some d) ∧ w'.cell? ⟨h, 5, none⟩ = some cur
theorem two_of {w1 : World} {g h : Nat} {a x : V} {c d cur q2 : Value} (h1 : At7 w1 g 0 a c d) (h2 : At7 w1 h 0 x cur q2) : Two w1 g h a c d cur := by
  obtain ⟨a0, a1, a2, a3, a4, a5, a6⟩ := h1
  obtain ⟨b0, b1, b2, b3, b4, b5, b6⟩ := h2
  simp only [Nat.zero_add] at a0 a1 a2 a3 a4 a5 a6 b5
  exact ⟨⟨a0, a1, a2, a3, a4, a5, a6⟩, b5⟩
theorem two_keep {W w1 : World} {g h : Nat} {a x : V} {c d cur q2 : Value} (h1 : At7 W g 0 a c d) (h2 : At7 W h 0 x cur q2) (hl : h + 1 < g ∧ g < W.heap.size) (hb : Below W.heap.size W w1) : Two w1 g h a c d cur :=
  two_of (h1.keep (hb.block _ hl.2)) (h2.keep (hb.block _ (by omega)))
theorem grew_block {W w1 w2 : World} {base : Nat} {v v2 : Value} {es : List (V × Value × Value)} (hb : Below W.heap.size W w1) (hrow : VRow W base v es) (hg : Grew w1 v w2 v2) {g : Nat} (hl : g < W.heap.size) (hne : v.ownBlock ≠ some g) : w2.heap[g]? = W.heap[g]? :=
  (hg.g.block g (Nat.lt_of_lt_of_le hl hb.size) (fun e => hne e.symm)).trans (hb.block g hl)
theorem grew_blockP {W w1 w2 : World} {base : Nat} {v v2 : Value} {es : List (ByteArray × V × Value × Value)} (hb : Below W.heap.size W w1) (hrow : PRow W base v es) (hg : Grew w1 v w2 v2) {g : Nat} (hl : g < W.heap.size) (hne : v.ownBlock ≠ some g) : w2.heap[g]? = W.heap[g]? :=
  (hg.g.block g (Nat.lt_of_lt_of_le hl hb.size) (fun e => hne e.symm)).trans (hb.block g hl)
theorem two_keep2 {W w1 w2 : World} {g h : Nat} {a x : V} {c d cur q2 v2 : Value} {base : Nat} {es : List (V × Value × Value)} (h1 : At7 W g 0 a c d) (h2 : At7 W h 0 x cur q2) (hl : h + 1 < g ∧ g < W.heap.size) (hne : cur.ownBlock ≠ some g ∧ cur.ownBlock ≠ some h ∧ cur.ownBlock ≠ some (h + 1))
    (hb : Below W.heap.size W w1) (hrow : VRow W base cur es) (hg : Grew w1 cur w2 v2) : Two w2 g h a c d cur :=
  two_of (h1.keep (grew_block hb hrow hg hl.2 hne.1)) (h2.keep (grew_block hb hrow hg (by omega) hne.2.1))
theorem cell_alloc {w1 : World} {a : Addr} {u : Value} (h : w1.cell? a = some u) : ∀ ob, (w1.alloc ob).cell? a = some u := fun ob => (Below.cell ((Below.refl w1.heap.size w1).alloc (Nat.le_refl _) ob) (World.block_lt_of_cell? w1 a h)).trans h
theorem take_get {α : Type} {l : List α} {k : Nat} {x : α} (h : l[k]? = some x) : l.take (k + 1) = l.take k ++ [x] := by rw [List.take_add_one, h]; rfl
theorem cinv_next {x : V} {q2 : Value} {w wr W w1 w2 : World} {n k : Nat} {cur v2 r1 r2 : Value} {es : List (V × Value × Value)} {a : V} (h : CInv x q2 w n k cur es wr) (hB : Below w.heap.size w W) (hbw : W.heap[w.heap.size]? = some (.cells (cv x cur q2) 27 (0, 0)))
    (hres : W.heap[w.heap.size + 1]? = some (.cells #[.int .u8 0, .string ⟨#[]⟩, .bool false, .int .i64 0, .float .f64 0, .slice none 0 0, .slice none 0 0] 27 (0, 0))) (hrow : VRow W (w.heap.size + 2) cur es)
    (hb1 : Below W.heap.size W w1) (hrow2 : VRow w2 (w.heap.size + 2) v2 (es ++ [(a, r1, r2)])) (hg : Grew w1 cur w2 v2) (ha : x.l[k]? = some a) :
    CInv x q2 w n (k + 1) v2 (es ++ [(a, r1, r2)]) (w2.setCell ⟨w.heap.size, 5, none⟩ v2) := by
  have n0 : cur.ownBlock ≠ some w.heap.size := fun e => by have := (hrow.lt _ e).1; omega
  have n1 : cur.ownBlock ≠ some (w.heap.size + 1) := fun e => by have := (hrow.lt _ e).1; omega
  have s1 := lt_of_block hres
  have hsz : (w2.setCell ⟨w.heap.size, 5, none⟩ v2).heap.size = w2.heap.size := by simp [World.setCell]
  refine ⟨box_list ((grew_block hb1 hrow hg (by omega) n0).trans hbw) v2, ?_, ?_, ?_, ?_⟩
  · exact (Below.heap_setCell w2 _ v2 _ (by simp)).trans ((grew_block hb1 hrow hg s1 n1).trans hres)
  · exact hrow2.keep (fun g hg _ => Below.heap_setCell w2 _ v2 g (by simp; omega)) (by rw [hsz]; exact Nat.le_refl _)
  · rw [List.map_append, h.eq, take_get ha]; rfl
  · refine ((hB.trans (hb1.mono hB.size)).trans (hg.below (by have := hB.size; have := hb1.size; omega) (fun k hk => by have := (hrow.lt k hk).1; omega))).setCell (Nat.le_refl _) _
theorem zero_box {w : World} {g : Nat} {t : TypeId} (h : w.heap[g]? = some (.cells #[.int .u8 0, .string ⟨#[]⟩, .bool false, .int .i64 0, .float .f64 0, .slice none 0 0, .slice none 0 0] t (0, 0))) :
    (w.cell? ⟨g, 0, none⟩ = some (.int .u8 0) ∧ w.cell? ⟨g, 1, none⟩ = some (.string ⟨#[]⟩) ∧ w.cell? ⟨g, 2, none⟩ = some (.bool false) ∧ w.cell? ⟨g, 3, none⟩ = some (.int .i64 0) ∧ w.cell? ⟨g, 4, none⟩ = some (.float .f64 0) ∧ w.cell? ⟨g, 5, none⟩ = some (.slice none 0 0) ∧ w.cell? ⟨g, 6, none⟩ = some (.slice none 0 0)) ∧
    w.frozen? ⟨g, 0, none⟩ = false ∧ w.frozen? ⟨g, 1, none⟩ = false ∧ w.frozen? ⟨g, 2, none⟩ = false ∧ w.frozen? ⟨g, 3, none⟩ = false ∧ w.frozen? ⟨g, 4, none⟩ = false ∧ w.frozen? ⟨g, 5, none⟩ = false ∧ w.frozen? ⟨g, 6, none⟩ = false :=
  ⟨⟨cell_of_row w g 0 _ t (0, 0) h, cell_of_row w g 1 _ t (0, 0) h, cell_of_row w g 2 _ t (0, 0) h, cell_of_row w g 3 _ t (0, 0) h, cell_of_row w g 4 _ t (0, 0) h, cell_of_row w g 5 _ t (0, 0) h, cell_of_row w g 6 _ t (0, 0) h⟩,
    frozen_of_row w g 0 _ t h, frozen_of_row w g 1 _ t h, frozen_of_row w g 2 _ t h, frozen_of_row w g 3 _ t h, frozen_of_row w g 4 _ t h, frozen_of_row w g 5 _ t h, frozen_of_row w g 6 _ t h⟩
theorem far_set {w w1 : World} {a : Addr} {u : Value} {B : Nat} (h : ∀ g : Nat, B ≤ g → w.heap[g]? = w1.heap[g]?) (ha : a.block < B) : ∀ g : Nat, B ≤ g → (w.setCell a u).heap[g]? = w1.heap[g]? :=
  fun g hg => (Below.heap_setCell w a u g (by omega)).trans (h g hg)
theorem cend {x : V} {q2 : Value} {w wr w1 F : World} {n k : Nat} {r1 r2 : Value} {es : List (V × Value × Value)} {es2 : List (ByteArray × V × Value × Value)} (h : CInv x q2 w n k r1 es wr) (hb1 : Below wr.heap.size wr w1) (hrow2 : PRow w1 wr.heap.size r2 es2) (he2 : es2.map kv = x.p) (hf : FitV x) (hk : x.l.length ≤ k)
    (hfar : ∀ g, w.heap.size + 2 ≤ g → F.heap[g]? = w1.heap[g]?) (hsz : F.heap.size = w1.heap.size) (hbel : Below w.heap.size w F) : Copied x w (.returned (.agg (cv x r1 r2))) F := by
  refine ⟨r1, r2, rfl, Rep.of hf ?_ ?_, hbel⟩
  · have e := h.eq
    rw [List.take_of_length_le hk] at e
    have hlen : es.length = x.l.length := by rw [← e]; simp
    have hl := hf.l1
    have := (h.row.under hb1).keep (w' := F) (fun g hg _ => hfar g hg) (by rw [hsz]; exact Nat.le_refl _) |>.data (by omega)
    rw [e] at this
    exact this.keep (Kept.of_below (Below.refl _ _) _) fun g hg _ => ⟨by have := hg.1; omega, hg.2⟩
  · have hlen : es2.length = x.p.length := by rw [← he2]; simp
    have hl := hf.p1
    have h2 := lt_of_block h.res
    have := hrow2.keep (w' := F) (fun g hg _ => hfar g (by omega)) (by rw [hsz]; exact Nat.le_refl _) |>.data (by omega)
    rw [he2] at this
    exact this.keep (Kept.of_below (Below.refl _ _) _) fun g hg _ => ⟨by have := hg.1; omega, hg.2⟩
theorem get_at' {α : Type} {l : List α} {k : Nat} (h : k < l.length) : ∃ a, l[k]? = some a := ⟨l[k], by simp [h]⟩

end Go.Proofs.YtnnnnlcpmocnfaaGreatDoor

/- THE WALKS OVER copied, copiedPair, copiedPairs, the program's. -/
namespace Go.Proofs.YtnnnnlcpmocnfaaGreatDoor
open Go.RowKit
set_option linter.unusedVariables false
set_option linter.unusedSimpArgs false
attribute [local go_sem] run_store_float


theorem zero_box8 {w : World} {g : Nat} {t : TypeId} (h : w.heap[g]? = some (.cells #[.string ⟨#[]⟩, .int .u8 0, .string ⟨#[]⟩, .bool false, .int .i64 0, .float .f64 0, .slice none 0 0, .slice none 0 0] t (0, 0))) :
    (w.cell? ⟨g, 0, none⟩ = some (.string ⟨#[]⟩) ∧ w.cell? ⟨g, 1, none⟩ = some (.int .u8 0) ∧ w.cell? ⟨g, 2, none⟩ = some (.string ⟨#[]⟩) ∧ w.cell? ⟨g, 3, none⟩ = some (.bool false) ∧ w.cell? ⟨g, 4, none⟩ = some (.int .i64 0) ∧ w.cell? ⟨g, 5, none⟩ = some (.float .f64 0) ∧ w.cell? ⟨g, 6, none⟩ = some (.slice none 0 0) ∧ w.cell? ⟨g, 7, none⟩ = some (.slice none 0 0)) ∧
    w.frozen? ⟨g, 0, none⟩ = false ∧ w.frozen? ⟨g, 1, none⟩ = false ∧ w.frozen? ⟨g, 2, none⟩ = false ∧ w.frozen? ⟨g, 3, none⟩ = false ∧ w.frozen? ⟨g, 4, none⟩ = false ∧ w.frozen? ⟨g, 5, none⟩ = false ∧ w.frozen? ⟨g, 6, none⟩ = false ∧ w.frozen? ⟨g, 7, none⟩ = false :=
  ⟨⟨cell_of_row w g 0 _ t (0, 0) h, cell_of_row w g 1 _ t (0, 0) h, cell_of_row w g 2 _ t (0, 0) h, cell_of_row w g 3 _ t (0, 0) h, cell_of_row w g 4 _ t (0, 0) h, cell_of_row w g 5 _ t (0, 0) h, cell_of_row w g 6 _ t (0, 0) h, cell_of_row w g 7 _ t (0, 0) h⟩, frozen_of_row w g 0 _ t h, frozen_of_row w g 1 _ t h, frozen_of_row w g 2 _ t h, frozen_of_row w g 3 _ t h, frozen_of_row w g 4 _ t h, frozen_of_row w g 5 _ t h, frozen_of_row w g 6 _ t h, frozen_of_row w g 7 _ t h⟩

theorem set_cell_far {w : World} {a b : Addr} {u v : Value} (h : w.cell? b = some v) (hne : b.block ≠ a.block) : (w.setCell a u).cell? b = some v := (World.cell?_of_block (w := w) (Below.heap_setCell w a u b.block hne)).trans h
end Go.Proofs.YtnnnnlcpmocnfaaGreatDoor

/- THE WALKS OVER copied, copiedPair, copiedPairs, the program's. -/
namespace Go.Proofs.YtnnnnlcpmocnfaaGreatDoor
open Go.RowKit
set_option linter.unusedVariables false
set_option linter.unusedSimpArgs false
attribute [local go_sem] run_store_float


/-- where copiedPairs stands behind k rounds -/
structure PInv (l : List (ByteArray × V)) (w : World) (k : Nat) (v : Value) (es : List (ByteArray × V × Value × Value)) (wr : World) : Prop where
  row : PRow wr w.heap.size v es
  eq : es.map kv = l.take k
  bel : Below w.heap.size w wr
theorem pinv_next {l : List (ByteArray × V)} {w wr W w1 w2 : World} {k : Nat} {v v2 r1 r2 : Value} {es : List (ByteArray × V × Value × Value)} {a : ByteArray × V} (h : PInv l w k v es wr) (hW : Below wr.heap.size wr W) (hb1 : Below W.heap.size W w1)
    (hrow2 : PRow w2 w.heap.size v2 (es ++ [(a.1, a.2, r1, r2)])) (hg : Grew w1 v w2 v2) (ha : l[k]? = some a) : PInv l w (k + 1) v2 (es ++ [(a.1, a.2, r1, r2)]) w2 := by
  refine ⟨hrow2, ?_, ?_⟩
  · rw [List.map_append, h.eq, take_get ha]; rfl
  · have hb := (h.bel.trans (hW.mono h.bel.size))
    exact (hb.trans (hb1.mono hb.size)).trans (hg.below (by have := hb.size; have := hb1.size; omega) fun k hk => (h.row.lt k hk).1)
theorem far_newP' {W w0 w1 : World} {base : Nat} {v : Value} {es : List (ByteArray × V × Value × Value)} {r1 r2 : Value} {a : V} (hrow : PRow W base v es) (hr : Rep (New W.heap.size w1) w1 r1 r2 a) (hb : base ≤ W.heap.size) : Rep (Far w1 base v.ownBlock) w1 r1 r2 a :=
  hr.keep (Kept.of_below (Below.refl _ _) _) fun g hg _ => ⟨Nat.le_trans hb hg.1, (fun e => by have := (hrow.lt g e).2; have := hg.1; omega), hg.2⟩

end Go.Proofs.YtnnnnlcpmocnfaaGreatDoor
