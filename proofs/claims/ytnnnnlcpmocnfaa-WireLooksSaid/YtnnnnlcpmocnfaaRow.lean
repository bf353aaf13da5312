/- ROWS OF FIELDS OF THE CALL's OWN. -/
import Derived.Test.YtnnnnlcpmocnfaaWr
import Derived.Test.YtnnnnlcpmocnfaaOne
namespace Go.Proofs.Ytnnnnlcpmocnfaa
open Go.RowKit
set_option linter.unusedVariables false

/-- a field's cells -/
def fc (f : M.Fd) : List Value := [.int .i64 f.num, .int .u8 (f.wire : Int), .int .u64 (f.n : Int), .string ⟨f.s.toArray⟩]
theorem fc_fit {f : M.Fd} {a b c : Int} {l : List UInt8} (h : Fit f a b c l) : (fcells a b c l).toList = fc f := by
  obtain ⟨rfl, h1, _, h2, _, _, _, _⟩ := h
  simp only [fc, Int.toNat_of_nonneg h1, Int.toNat_of_nonneg h2]
theorem fc_one (fs : List M.Fd) : ∀ u ∈ fs.flatMap fc, u.oneCell' = true := by
  intro u hu
  obtain ⟨f, _, hu⟩ := List.mem_flatMap.1 hu
  simp only [fc, List.mem_cons, List.not_mem_nil, or_false] at hu
  rcases hu with rfl | rfl | rfl | rfl <;> rfl
theorem fc_len (fs : List M.Fd) : (fs.flatMap fc).length = fs.length * 4 := by
  induction fs with
  | nil => rfl
  | cons f fs ih => rw [List.flatMap_cons, List.length_append, ih]; simp [fc]; omega
theorem fc_at (fs : List M.Fd) : ∀ (i : Nat) (f : M.Fd), fs[i]? = some f → ∀ j, j < 4 → (fs.flatMap fc)[i * 4 + j]? = (fc f)[j]? := by
  induction fs with
  | nil => intro i f h; simp at h
  | cons x fs ih =>
    intro i f h j hj
    rw [List.flatMap_cons]
    cases i with
    | zero =>
      simp at h; subst h
      rw [List.getElem?_append_left (by simp [fc]; omega)]
      simp
    | succ i =>
      rw [List.getElem?_append_right (by simp [fc]; omega)]
      have e : (i + 1) * 4 + j - (fc x).length = i * 4 + j := by simp [fc]; omega
      rw [e]
      exact ih i f (by simpa using h) j hj

theorem Fit.uniq {f : M.Fd} {a b c a' b' c' : Int} {l l' : List UInt8} (h : Fit f a b c l) (h' : Fit f a' b' c' l') : a = a' ∧ b = b' ∧ c = c' ∧ l = l' := by
  have e := h.e.symm.trans h'.e
  injection e with e1 e2 e3 e4
  have := h.b0; have := h'.b0; have := h.c0; have := h'.c0
  exact ⟨e1, by omega, by omega, e4⟩

/-- numbers that fit -/
def Fine (f : M.Fd) : Prop := ∃ a b c l, Fit f a b c l

/-- the slice v of the call's own has the fields fs -/
def FRow (w : World) (base : Nat) (v : Value) (fs : List M.Fd) : Prop := w.ownsRow base 39 4 v fs.length (fs.flatMap fc)
section
variable {w w' : World} {base : Nat} {v : Value} {fs : List M.Fd}
theorem FRow.nil (w : World) (base : Nat) : FRow w base (.slice none 0 0) [] := World.ownsRow_nil _ _ _ _
theorem FRow.alloc (h : FRow w base v fs) (o : Obj) : FRow (w.alloc o) base v fs := World.ownsRow.alloc h o
theorem FRow.drew (h : FRow w base v fs) : FRow w.drew base v fs := h
theorem FRow.kept {row : Option Nat} (h : FRow w base v fs) (hg : w.grownBy w' row) (hne : v.ownBlock = none ∨ v.ownBlock ≠ row) : FRow w' base v fs := World.ownsRow.kept h hg hne
theorem FRow.lt (h : FRow w base v fs) : ∀ k, v.ownBlock = some k → base ≤ k ∧ k < w.heap.size := World.ownsRow.lt h
theorem FRow.below (h : FRow w base v fs) {r : Nat} (hr : r < base) (hg : w.grownBy w' (some r)) : FRow w' base v fs :=
  h.kept hg (by
    cases hv : v.ownBlock with
    | none => exact .inl rfl
    | some k => refine .inr ?_; intro e; injection e with e; have := (h.lt k hv).1; omega)
theorem FRow.form (h : FRow w base v fs) : ∃ ad cap, v = .slice ad fs.length cap := by
  rcases h.2 with ⟨hv, hn⟩ | ⟨g, cap, cur, hv, _⟩
  · exact ⟨none, 0, by rw [hv, hn]⟩
  · exact ⟨_, cap, hv⟩
theorem FRow.flds (h : FRow w base v fs) (hf : ∀ f ∈ fs, Fine f) (hl : fs.length ≤ 9223372036854775807) : ∃ ad cap, v = .slice ad fs.length cap ∧ Flds w w.heap.size ad fs := by
  rcases h.2 with ⟨hv, hn⟩ | ⟨g, cap, cur, hv, hbg, hg, hnc, hcm, hcs, htake⟩
  · have hx : fs = [] := List.eq_nil_of_length_eq_zero hn
    subst hx
    exact ⟨none, 0, hv, by simp, fun h => absurd rfl h⟩
  · refine ⟨some ⟨g, 0, none⟩, cap, hv, hl, fun _ => ⟨g, 0, rfl, (Array.getElem?_eq_some_iff.1 hg).1, fun i f hi => ?_⟩⟩
    obtain ⟨a, b, c, l, hfit⟩ := hf f (List.mem_of_getElem? hi)
    refine ⟨a, b, c, l, hfit, ?_⟩
    have hcell : ∀ j u, (fs.flatMap fc)[j]? = some u → w.cell? ⟨g, j, none⟩ = some u := fun j u hu => by
      have := World.ownsRow.cells h (g := g) (by rw [hv]; rfl) j u hu
      rwa [show (⟨g, 0, none⟩ : Addr).add j = ⟨g, j, none⟩ by unfold Addr.add; split <;> simp_all] at this
    have hfc := fc_fit hfit
    have at_ : ∀ j u, j < 4 → (fcells a b c l).toList[j]? = some u → w.cell? ⟨g, 0 + i * 4 + j, none⟩ = some u := fun j u hj hu => by
      rw [Nat.zero_add]
      refine hcell _ _ ?_
      rw [fc_at fs i f hi j hj, ← hfc]
      exact hu
    exact ⟨at_ 0 _ (by omega) rfl, at_ 1 _ (by omega) rfl, at_ 2 _ (by omega) rfl, at_ 3 _ (by omega) rfl⟩
end

theorem Try.info39 : (Try.prog.info? 39).map (fun i => (i.zero, i.size, i.bytes)) = some (some (.agg #[.int .i64 0, .int .u8 0, .int .u64 0, .string ⟨#[]⟩]), 4, 40) := by kernel_rfl

/-- append of one field, as an operation -/
theorem op_app_fd {w : World} {o : Oper} {a : Act} {K : Act → World → Prop} {Q : Exit → Act → World → Prop} (s x : Operand)
    (ho : o.op = .call { callee := .builtin .append, args := #[s, x], argTypes := #[31, 31] }) (base : Nat) (v : Value) (fs : List M.Fd) (hs : a.eval s = v) (hown : FRow w base v fs)
    (f : M.Fd) (cs : Array Value) (hcs : cs.toList = fc f) (hx : a.eval x = .slice (some ⟨w.heap.size, 0, none⟩) 1 1) (hlen : fs.length ≤ 1000000) (hbase : base ≤ w.heap.size)
    (h : ∀ v' w', FRow w' base v' (fs ++ [f]) → Grew w v w' v' → K (a.put o.dst v') w') : Oper.wp Try.prog o a (w.alloc (.cells cs 39)) K Q := by
  obtain ⟨i0, hi, hz0, hz1, hz2⟩ := info_parts Try.info39
  obtain ⟨v', w', hr, h2, h3, _, h5⟩ := run_append_own_at (P := Try.prog) (w.alloc (.cells cs 39)) base 31 o.type 39 i0 _ 4 40 Try.underlying31 hi hz0 hz1 hz2 rfl (by decide) v fs.length (fs.flatMap fc) (World.ownsRow.alloc hown _)
    ⟨w.heap.size, 0, none⟩ 1 1 (fc f) rfl
    (by
      intro j u hu
      have e : (⟨w.heap.size, 0, none⟩ : Addr).add j = ⟨w.heap.size, j, none⟩ := by unfold Addr.add; split <;> simp_all
      rw [e, cell_of_row _ w.heap.size j cs 39 (0, 0) (heap_alloc_new w _), ← Array.getElem?_toList, hcs]
      exact hu)
    (by intro u hu; exact fc_one [f] u (by simpa using hu)) (by unfold maxLen; omega) (by omega) (by simp; omega)
  unfold Oper.wp execOp
  simp only [ho, resolve, invoke, builtin, Sem.run_bind, Sem.run_pure, Result.andThen_ok, List.map_toArray, List.map_cons, List.map_nil, hs, hx, hr]
  refine h v' w' ?_ (((Grew.refl w v).alloc _).step h3 h5)
  unfold FRow
  rw [List.length_append, List.flatMap_append]
  simpa using h2
end Go.Proofs.Ytnnnnlcpmocnfaa
