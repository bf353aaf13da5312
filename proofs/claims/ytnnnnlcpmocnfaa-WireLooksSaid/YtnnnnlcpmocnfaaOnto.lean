/- append OF A SLICE OF FIELDS ONTO ONE OF THE CALL's OWN; parts of slices of fields. -/
import Derived.Test.YtnnnnlcpmocnfaaFinds
namespace Go.Proofs.Ytnnnnlcpmocnfaa
open Go.RowKit
set_option linter.unusedVariables false
set_option linter.unusedSimpArgs false

theorem Flds.take {w : World} {B : Nat} {ad : Option Addr} {fs : List M.Fd} (h : Flds w B ad fs) (m : Nat) : Flds w B ad (fs.take m) := by
  refine ⟨Nat.le_trans (List.length_take_le' _ _) h.1, fun hne => ?_⟩
  have hne' : fs ≠ [] := by rintro rfl; simp at hne
  obtain ⟨g, off, e, hg, hi⟩ := h.2 hne'
  refine ⟨g, off, e, hg, fun i f hf => hi i f ?_⟩
  rw [List.getElem?_take] at hf
  split at hf
  · exact hf
  · cases hf
theorem fc_div (fs : List M.Fd) (j : Nat) (u : Value) (h : (fs.flatMap fc)[j]? = some u) : ∃ f, fs[j / 4]? = some f ∧ (fc f)[j % 4]? = some u := by
  have hj := (List.getElem?_eq_some_iff.1 h).1
  rw [fc_len] at hj
  have hf : fs[j / 4]? = some (fs[j / 4]'(by omega)) := List.getElem?_eq_getElem (by omega)
  refine ⟨_, hf, ?_⟩
  rw [← fc_at fs (j / 4) _ hf (j % 4) (Nat.mod_lt _ (by decide)), show j / 4 * 4 + j % 4 = j by omega]
  exact h
theorem Flds.cells {w : World} {B g off : Nat} {fs : List M.Fd} (h : Flds w B (some ⟨g, off, none⟩) fs) : ∀ j u, (fs.flatMap fc)[j]? = some u → w.cell? ((⟨g, off, none⟩ : Addr).add j) = some u := by
  intro j u hu
  rw [Addr.add_lit]
  obtain ⟨f, hf, hc⟩ := fc_div fs j u hu
  obtain ⟨g', off', e, _, hi⟩ := h.2 (List.ne_nil_of_mem (List.mem_of_getElem? hf))
  injection e with e
  injection e with e1 e2
  subst e1 e2
  obtain ⟨a, b, c, l, hfit, q⟩ := hi _ f hf
  rw [← fc_fit hfit] at hc
  have hm : j % 4 < 4 := Nat.mod_lt _ (by decide)
  have hj : j = j / 4 * 4 + j % 4 := by omega
  rcases (by omega : j % 4 = 0 ∨ j % 4 = 1 ∨ j % 4 = 2 ∨ j % 4 = 3) with e | e | e | e
  · rw [e] at hc; simp at hc; subst hc; rw [hj, e]; exact q.q0
  · rw [e] at hc; simp at hc; subst hc; rw [hj, e]; exact q.q1
  · rw [e] at hc; simp at hc; subst hc; rw [hj, e]; exact q.q2
  · rw [e] at hc; simp at hc; subst hc; rw [hj, e]; exact q.q3

theorem run_app_fs {w : World} (ty : TypeId) (base : Nat) (v : Value) (xs : List M.Fd) (hown : FRow w base v xs) (ad : Option Addr) (cap : Nat) (fs : List M.Fd) (hfl : Flds w w.heap.size ad fs)
    (hlen : xs.length + fs.length ≤ 1000000) (hbase : base ≤ w.heap.size) :
    ∃ v' w', (Builtin.append_ #[31, 31] ty #[v, .slice ad fs.length cap]).run Try.prog w = .ok v' w' ∧ FRow w' base v' (xs ++ fs) ∧ Grew w v w' v' := by
  obtain ⟨i0, hi, hz0, hz1, hz2⟩ := info_parts Try.info39
  cases ad with
  | none =>
    have hx : fs = [] := by
      rcases Classical.em (fs = []) with h | h
      · exact h
      · obtain ⟨g, off, e, _⟩ := hfl.2 h; cases e
    subst hx
    refine ⟨v, w, ?_, by simpa using hown, Grew.refl _ _⟩
    rcases hown.2 with ⟨rfl, hn⟩ | ⟨g, cap', cur, rfl, _, _, hnc, _⟩
    · simp [Builtin.append_, run_underlying Try.underlying31, sizeOf, typeInfo, hi, Builtin.lenOf, Builtin.firstCells]
    · simp [Builtin.append_, run_underlying Try.underlying31, sizeOf, typeInfo, hi, Builtin.lenOf, Builtin.firstCells, hnc, storeCells]
  | some a =>
    have hcells : ∀ j u, (fs.flatMap fc)[j]? = some u → w.cell? (a.add j) = some u := by
      intro j u hu
      obtain ⟨f, hf, _⟩ := fc_div fs j u hu
      obtain ⟨g, off, e, _⟩ := hfl.2 (List.ne_nil_of_mem (List.mem_of_getElem? hf))
      injection e with e
      subst e
      exact hfl.cells j u hu
    obtain ⟨v', w', hr, h2, h3, _, h5⟩ := run_append_own_at (P := Try.prog) w base 31 ty 39 i0 _ 4 40 Try.underlying31 hi hz0 hz1 hz2 rfl (by decide) v xs.length (xs.flatMap fc) hown a fs.length cap (fs.flatMap fc) (fc_len fs) hcells
      (fc_one fs) (by unfold maxLen; omega) (by omega) hbase
    refine ⟨v', w', hr, ?_, (Grew.refl w v).step h3 h5⟩
    unfold FRow
    rw [List.length_append, List.flatMap_append]
    exact h2

theorem wp_app_fs {w : World} {ops : Array Oper} {rest : List Oper} {o : Oper} {a : Act} {Q : Exit → Act → World → Prop} (hgd : Region.wanted o (yielded ops a.tmps) = true) (s x : Operand)
    (ho : o.op = .call { callee := .builtin .append, args := #[s, x], argTypes := #[31, 31] }) (base : Nat) (v : Value) (xs : List M.Fd) (hs : a.eval s = v) (hown : FRow w base v xs)
    (ad : Option Addr) (cap n : Nat) (fs : List M.Fd) (hx : a.eval x = .slice ad n cap) (hn : n = fs.length) (hfl : Flds w w.heap.size ad fs) (hlen : xs.length + fs.length ≤ 1000000) (hbase : base ≤ w.heap.size)
    (h : ∀ v' w', FRow w' base v' (xs ++ fs) → Grew w v w' v' → wpList Try.prog ops Q rest (a.put o.dst v') w') : wpList Try.prog ops Q (o :: rest) a w := by
  subst hn
  refine wpList_step fun K hK => ?_
  rw [if_pos hgd]
  obtain ⟨v', w', hr, h2, h3⟩ := run_app_fs o.type base v xs hown ad cap fs hfl hlen hbase
  unfold Oper.wp execOp
  simp only [ho, resolve, invoke, builtin, Sem.run_bind, Sem.run_pure, Result.andThen_ok, List.map_toArray, List.map_cons, List.map_nil, hs, hx, hr]
  exact hK _ _ (h v' w' h2 h3)
end Go.Proofs.Ytnnnnlcpmocnfaa
