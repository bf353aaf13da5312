/- SMALL LEMMAS ON WORLDS AND VALUES, over any program: rows of the call's own that grow; bytes as cells. -/
import Derived.WalkKit
import Derived.Maps.AppendAt
import Derived.Lib.Hide
import Derived.Lib.AppendStr
import Derived.Laws.IdiomStrings
import Derived.Test.YtnnnnlcpmocnfaaMath
namespace Go.Proofs.Ytnnnnlcpmocnfaa
open Go.RowKit

theorem grownBy_step {a b c : World} {r s : Option Nat} (h : a.grownBy b r) (k : b.grownBy c s) (hs : s = r ∨ s = none ∨ ∃ n, s = some n ∧ a.heap.size ≤ n) : a.grownBy c r :=
  ⟨k.os.trans h.os, k.tape.trans h.tape, k.output.trans h.output, Nat.le_trans h.size k.size, fun i hi hne =>
    (k.block i (Nat.lt_of_lt_of_le hi h.size) (fun e => by
      rcases hs with hs | hs | ⟨n, hs, hn⟩
      · exact hne (e.trans hs)
      · rw [hs] at e; cases e
      · rw [hs] at e; injection e with e; omega)).trans (h.block i hi hne)⟩

/-- from world w0 with the slice v0 of the call's own to world w with the slice v: only v0's row, and what is new, has turned -/
structure Grew (w0 : World) (v0 : Value) (w : World) (v : Value) : Prop where
  g : w0.grownBy w v0.ownBlock
  o : v.ownBlock = v0.ownBlock ∨ ∃ b, v.ownBlock = some b ∧ w0.heap.size ≤ b

theorem Grew.refl (w : World) (v : Value) : Grew w v w v := ⟨World.grownBy.refl w _, .inl rfl⟩
theorem Grew.trans {w0 w1 w2 : World} {v0 v1 v2 : Value} (h : Grew w0 v0 w1 v1) (k : Grew w1 v1 w2 v2) : Grew w0 v0 w2 v2 := by
  refine ⟨grownBy_step h.g k.g ?_, ?_⟩
  · rcases h.o with e | ⟨b, e, hb⟩
    · exact .inl e
    · exact .inr (.inr ⟨b, e, hb⟩)
  · rcases k.o with e | ⟨b, e, hb⟩
    · rw [e]; exact h.o
    · exact .inr ⟨b, e, Nat.le_trans h.g.size hb⟩
theorem Grew.step {w0 w w' : World} {v0 v v' : Value} (h : Grew w0 v0 w v) (k : w.grownBy w' v.ownBlock) (o : v'.ownBlock = v.ownBlock ∨ v'.ownBlock = some w.heap.size) : Grew w0 v0 w' v' :=
  h.trans ⟨k, by rcases o with o | o; exact .inl o; exact .inr ⟨_, o, Nat.le_refl _⟩⟩
theorem Grew.alloc {w0 w : World} {v0 v : Value} (h : Grew w0 v0 w v) (o : Obj) : Grew w0 v0 (w.alloc o) v := h.trans ⟨World.grownBy_alloc w o _, .inl rfl⟩
theorem Grew.drew {w0 w : World} {v0 v : Value} (h : Grew w0 v0 w v) : Grew w0 v0 w.drew v := ⟨⟨h.g.os, h.g.tape, h.g.output, h.g.size, h.g.block⟩, h.o⟩
theorem Grew.below {B : Nat} {w0 w : World} {v0 v : Value} (h : Grew w0 v0 w v) (hB : B ≤ w0.heap.size) (hr : ∀ k, v0.ownBlock = some k → B ≤ k) : Below B w0 w :=
  (Below.refl _ _).grown h.g hB hr

/-- a byte as a value -/
abbrev B (b : UInt8) : Value := .int .u8 (b.toNat : Int)
theorem B_one (l : List UInt8) : ∀ u ∈ l.map B, u.oneCell' = true := by
  intro u hu
  obtain ⟨b, _, rfl⟩ := List.mem_map.1 hu
  rfl
theorem one_cells {w : World} {t : TypeId} {x : Value} : ∀ (j : Nat) (u : Value), [x][j]? = some u → (w.alloc (.cells #[x] t)).cell? ((⟨w.heap.size, 0, none⟩ : Addr).add j) = some u := by
  intro j u hj
  match j, hj with
  | 0, hj => simp at hj; subst hj; simp [Addr.add]
theorem by8_int (n : Nat) (h : n < 256) : B (M.by8 n) = .int .u8 (n : Int) := by rw [B, M.by8_toNat n h]
theorem B_of {k : Int} {n : Nat} (h : n < 256) (e : (n : Int) = k) : Value.int .u8 k = B (M.by8 n) := by rw [by8_int n h, e]

/-- the slice v of the call's own (blocks from 'base' on) has the bytes xs; E: the element type's number -/
def Bytes (E : TypeId) (w : World) (base : Nat) (v : Value) (xs : List UInt8) : Prop := w.ownsRow base E 1 v xs.length (xs.map B)
section
variable {E : TypeId} {w w' : World} {base : Nat} {v : Value} {xs : List UInt8}
theorem Bytes.nil (w : World) (base : Nat) : Bytes E w base (.slice none 0 0) [] := World.ownsRow_nil _ _ _ _
theorem Bytes.alloc (h : Bytes E w base v xs) (o : Obj) : Bytes E (w.alloc o) base v xs := World.ownsRow.alloc h o
theorem Bytes.kept {row : Option Nat} (h : Bytes E w base v xs) (hg : w.grownBy w' row) (hne : v.ownBlock = none ∨ v.ownBlock ≠ row) : Bytes E w' base v xs := World.ownsRow.kept h hg hne
theorem Bytes.drew (h : Bytes E w base v xs) : Bytes E w.drew base v xs := h
theorem Bytes.form (h : Bytes E w base v xs) : ∃ ad cap, v = .slice ad xs.length cap := by
  rcases h.2 with ⟨hv, hn⟩ | ⟨g, cap, cur, hv, _⟩
  · exact ⟨none, 0, by rw [hv, hn]⟩
  · exact ⟨_, cap, hv⟩
end

/-- append of one byte -/
theorem wp_app_byte {P : Program} {E T : TypeId} {w : World} {ops : Array Oper} {rest : List Oper} {o : Oper} {a : Act} {Q : Exit → Act → World → Prop}
    (hE : (P.info? E).map (fun i => (i.zero, i.size, i.bytes)) = some (some (.int .u8 0), 1, 1)) (hT : P.underlying T = some (.slice E)) (hgd : o.guard = none) (s x : Operand)
    (ho : o.op = .call { callee := .builtin .append, args := #[s, x], argTypes := #[T, T] }) (base : Nat) (v : Value) (xs : List UInt8) (hs : a.eval s = v) (hown : Bytes E w base v xs)
    (c : UInt8) (z : Value) (hz : z = B c) (hx : a.eval x = .slice (some ⟨w.heap.size, 0, none⟩) 1 1) (hlen : xs.length ≤ 140737488355000) (hbase : base ≤ w.heap.size)
    (h : ∀ v' w', Bytes E w' base v' (xs ++ [c]) → Grew w v w' v' → wpList P ops Q rest (a.put o.dst v') w') : wpList P ops Q (o :: rest) a (w.alloc (.cells #[z] E)) := by
  obtain ⟨i0, hi, hz0, hz1, hz2⟩ := info_parts hE
  subst hz
  refine wpList_append_own_at _ hgd s x T ho base E i0 (.int .u8 0) 1 1 hT hi hz0 hz1 hz2 rfl (by decide) v xs.length (xs.map B) hs (World.ownsRow.alloc hown _) ⟨w.heap.size, 0, none⟩ 1 1 [B c] hx rfl one_cells
    (by intro u hu; simp at hu; subst hu; rfl) (by unfold maxLen; omega) (by omega) (by simp; omega) ?_
  intro v' w' h1 h2 _ h4
  refine h v' w' ?_ (((Grew.refl w v).alloc _).step h2 h4)
  unfold Bytes
  rw [List.length_append, List.map_append]
  exact h1

/-- where the slice lies behind append of a string -/
theorem run_app_str {P : Program} {E T U : TypeId} (w : World) (ty : TypeId) (hE : (P.info? E).map (fun i => (i.zero, i.size, i.bytes)) = some (some (.int .u8 0), 1, 1))
    (hT : P.underlying T = some (.slice E)) (hU : P.underlying U = some .string) (base : Nat) (v : Value) (xs : List UInt8) (hown : Bytes E w base v xs) (l : List UInt8)
    (hlen : xs.length + l.length ≤ 140737488355000) (hbase : base ≤ w.heap.size) :
    ∃ v' w', (Builtin.append_ #[T, U] ty #[v, .string ⟨l.toArray⟩]).run P w = .ok v' w' ∧ Bytes E w' base v' (xs ++ l) ∧ Grew w v w' v' := by
  obtain ⟨i0, hi, hz0, hz1, hz2⟩ := info_parts hE
  have hs : (ByteArray.mk l.toArray).size = l.length := by simp [ByteArray.size]
  have hc : Lib.strCells ⟨l.toArray⟩ = l.map B := by simp [Lib.strCells]
  obtain ⟨v', w', hr, h1, h2, _⟩ := Lib.run_append_own_string (P := P) w base T U ty E i0 hT hU hi hz0 hz1 hz2 v xs.length (xs.map B) hown ⟨l.toArray⟩ (by rw [hs]; unfold maxLen; omega) (by rw [hs]; omega) hbase
  refine ⟨v', w', hr, by unfold Bytes; rw [List.length_append, List.map_append]; rw [hs, hc] at h1; exact h1, (Grew.refl w v).step h2 ?_⟩
  rcases hown.2 with ⟨rfl, hn⟩ | ⟨g, cap, cur, rfl, hbg, hg, hnc, hcm, hcs, htake⟩
  · by_cases hl : l.length = 0
    · have hn' : l = [] := List.eq_nil_of_length_eq_zero hl
      subst hn'
      left
      have hf := Lib.run_firstCells_string (P := P) w 1 ⟨([] : List UInt8).toArray⟩
      have e : (Builtin.append_ #[T, U] ty #[.slice none 0 0, .string ⟨([] : List UInt8).toArray⟩]).run P w = .ok (.slice none 0 0) w := by
        rw [hs] at hf
        simp [Builtin.append_, run_underlying hT, run_underlying hU, sizeOf, typeInfo, hi, hz1, Builtin.lenOf, hs] at hf ⊢
        simp [hf]
      rw [e] at hr
      injection hr with ha hb
      rw [← ha]
    · right
      have e := run_append_nil_string (P := P) w T U ty E i0 (.int .u8 0) hT hU hi hz0 ⟨l.toArray⟩ (by rw [hs]; omega) (by rw [hs]; omega) (by rw [hz2, hs]; omega)
      rw [e] at hr
      injection hr with ha hb
      rw [← ha]; rfl
  · by_cases hroom : xs.length + l.length ≤ cap
    · left
      have e := Lib.run_append_room_string (P := P) w T U ty E i0 hT hU hi hz1 g xs.length cap cur hg ⟨l.toArray⟩ (by rw [hs]; exact hroom) (by rw [hs, hcs]; omega)
      rw [e] at hr
      injection hr with ha hb
      rw [← ha]; rfl
    · right
      have holds : ∀ j u, (xs.map B)[j]? = some u → w.cell? ((⟨g, 0, none⟩ : Addr).add j) = some u := World.ownsRow.cells hown (g := g) rfl
      have e := Lib.run_append_grow_string (P := P) w T U ty E i0 (.int .u8 0) hT hU hi hz0 ⟨g, 0, none⟩ xs.length cap (xs.map B) (by rw [hz1]; simp) holds ⟨l.toArray⟩ (by rw [hs]; omega) (by rw [hs]; omega)
        (by rw [hz2, hs]; exact growslice_fits (by omega) (by omega))
      rw [e] at hr
      injection hr with ha hb
      rw [← ha]; rfl

theorem wp_app_str {P : Program} {E T U : TypeId} {w : World} {ops : Array Oper} {rest : List Oper} {o : Oper} {a : Act} {Q : Exit → Act → World → Prop}
    (hE : (P.info? E).map (fun i => (i.zero, i.size, i.bytes)) = some (some (.int .u8 0), 1, 1)) (hT : P.underlying T = some (.slice E)) (hU : P.underlying U = some .string) (hgd : o.guard = none) (s x : Operand)
    (ho : o.op = .call { callee := .builtin .append, args := #[s, x], argTypes := #[T, U] }) (base : Nat) (v : Value) (xs : List UInt8) (hs : a.eval s = v) (hown : Bytes E w base v xs)
    (l : List UInt8) (hx : a.eval x = .string ⟨l.toArray⟩) (hlen : xs.length + l.length ≤ 140737488355000) (hbase : base ≤ w.heap.size)
    (h : ∀ v' w', Bytes E w' base v' (xs ++ l) → Grew w v w' v' → wpList P ops Q rest (a.put o.dst v') w') : wpList P ops Q (o :: rest) a w := by
  refine wpList_plain hgd fun K hK => ?_
  obtain ⟨v', w', hr, h2, h3⟩ := run_app_str (P := P) w o.type hE hT hU base v xs hown l hlen hbase
  unfold Oper.wp execOp
  simp only [ho, resolve, invoke, builtin, Sem.run_bind, Sem.run_pure, Result.andThen_ok, List.map_toArray, List.map_cons, List.map_nil, hs, hx, hr]
  exact hK _ _ (h v' w' h2 h3)

/-- the string of a slice of bytes -/
theorem Bytes.conv {P : Program} {E T U : TypeId} {w : World} {base : Nat} {v : Value} {xs : List UInt8} (h : Bytes E w base v xs) (hT : P.underlying T = some (.slice E)) (hE : P.underlying E = some (.int .u8)) (hU : P.underlying U = some .string) :
    (convert T U v).run P w = .ok (.string ⟨xs.toArray⟩) w := by
  rcases h.2 with ⟨rfl, hn⟩ | ⟨g, cap, cur, rfl, hbg, hg, hnc, hcm, hcs, htake⟩
  · have hx : xs = [] := List.eq_nil_of_length_eq_zero hn
    subst hx
    rw [run_convert_bytes_string w T U E none 0 0 hT hE hU]
    rfl
  · refine run_convert_bytes_back w T U E ⟨g, 0, none⟩ cap xs hT hE hU fun j hj => ?_
    exact World.ownsRow.cells h (g := g) rfl j _ (by simp [hj])

theorem Grew.blk {W W1 : World} {v0 v1 : Value} (h : Grew W v0 W1 v1) {g : Nat} {o : Obj} (hg : W.heap[g]? = some o) (hne : ∀ k, v0.ownBlock = some k → k ≠ g) : W1.heap[g]? = some o :=
  (h.g.block g (Array.getElem?_eq_some_iff.1 hg).1 (fun e => hne g e.symm rfl)).trans hg
theorem Bytes.lt {E : TypeId} {w : World} {base : Nat} {v : Value} {xs : List UInt8} (h : Bytes E w base v xs) : ∀ k, v.ownBlock = some k → base ≤ k ∧ k < w.heap.size := World.ownsRow.lt h
theorem blk_new (w : World) (o : Obj) : (w.alloc o).heap[w.heap.size]? = some o := heap_alloc_new w o
theorem blk_alloc {w : World} {g : Nat} {o : Obj} (h : w.heap[g]? = some o) (o' : Obj) : (w.alloc o').heap[g]? = some o := (Below.heap_alloc w o' g (Array.getElem?_eq_some_iff.1 h).1).trans h
theorem box4 {w : World} {g : Nat} {x0 x1 x2 x3 : Value} {t : TypeId} (h : w.heap[g]? = some (.cells #[x0, x1, x2, x3] t (0, 0))) :
    w.cell? ⟨g, 0, none⟩ = some x0 ∧ w.cell? ⟨g, 1, none⟩ = some x1 ∧ w.cell? ⟨g, 2, none⟩ = some x2 ∧ w.cell? ⟨g, 3, none⟩ = some x3 :=
  ⟨cell_of_row w g 0 _ t (0, 0) h, cell_of_row w g 1 _ t (0, 0) h, cell_of_row w g 2 _ t (0, 0) h, cell_of_row w g 3 _ t (0, 0) h⟩
end Go.Proofs.Ytnnnnlcpmocnfaa
