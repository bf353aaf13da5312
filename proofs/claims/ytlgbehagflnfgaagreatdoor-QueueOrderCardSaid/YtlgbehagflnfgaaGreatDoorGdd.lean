/- QUEUE, MATHEMATICS: a queue that is filled; one entry acked makes room. -/
import Derived.Test.YtlgbehagflnfgaaGreatDoorGda
namespace Go.Proofs.YtlgbehagflnfgaaGreatDoor
open Go.RowKit
set_option maxRecDepth 100000
set_option linter.unusedVariables false
set_option linter.unusedSimpArgs false
theorem QG.tight {q : Q} {fs : List F} {fr : Nat} {rs : List Rec} {fu fa size : Int} {K : Nat} (h : QG q fs fr rs fu fa size K) : QG q fs fr rs fu fa size (fr + rs.length) := ⟨h.l, h.kk, h.es, h.sz, h.mo, h.ln, h.fr1, Nat.le_refl _⟩
abbrev xB : ByteArray := ⟨#[120]⟩
abbrev yB : ByteArray := ⟨#[121]⟩
def FI (most : Int) (i : Nat) (q : Q) : Prop := ∃ fs rs, QG q fs 1 rs (-1) (-1) 262144 (1 + rs.length) ∧ rs.length = min i most.toNat ∧ q.es.length = rs.length ∧ (∀ e ∈ q.es, e.leased = false) ∧ fs.length ≤ i ∧ q.most = most
theorem fi_zero {most : Int} (hm : 1 ≤ most ∧ most ≤ 1024) : FI most 0 (q0Q 262144 most) :=
  ⟨[], [], qg_nil (by omega) hm, by simp, rfl, (fun e h => by simp at h), Nat.le_refl _, rfl⟩
theorem fi_put {most : Int} {i : Nat} {q : Q} (h : FI most i q) (hi : i < 12) (hlt : (i : Int) < most) : ∃ q2, ansQ q (.put xB) = (q2, ⟨i + 1, ⟨#[]⟩, false⟩, 0) ∧ FI most (i + 1) q2 := by
  obtain ⟨fs, rs, hg, hl, he, hf, hfs, hmo⟩ := h
  have hrs : rs.length = i := by omega
  have ha := hg.ans (by omega) (.put xB)
  rcases qg_put (d := xB) hg (by omega) (by rw [hmo]; omega) (by decide) with ⟨c1, fs1, a1, b1, g1, l1, s1, v1, m1⟩ | ⟨_, hn, _⟩
  rotate_left
  · omega
  obtain ⟨⟨q2, v, c⟩, hq⟩ : ∃ r, putM q xB = r := ⟨_, rfl⟩
  rw [hq] at c1 g1 s1 v1 m1
  simp only at c1 g1 s1 v1 m1
  subst c1 v1
  refine ⟨q2, ?_, fs1, _, g1.tight, ?_, ?_, ?_, by omega, by rw [m1, hmo]⟩
  · rw [ha]
    show putM q xB = _
    rw [hq, hrs, Nat.add_comm 1 i]
  · simp only [List.length_append, List.length_singleton]; omega
  · rw [s1]; simp only [List.length_append, List.length_singleton]; omega
  · intro e h
    rw [s1] at h
    rcases List.mem_append.1 h with k | k
    · exact hf e k
    · rw [List.mem_singleton] at k; subst k; rfl
theorem fi_full {most : Int} {i : Nat} {q : Q} (h : FI most i q) (hi : i < 12) (hm : 1 ≤ most) (hlt : most ≤ (i : Int)) : ansQ q (.put xB) = (q, zE, 8) ∧ FI most (i + 1) q := by
  obtain ⟨fs, rs, hg, hl, he, hf, hfs, hmo⟩ := h
  have ha := hg.ans (by omega) (.put xB)
  refine ⟨?_, fs, rs, hg, by omega, he, hf, by omega, hmo⟩
  rw [ha]
  show putM q xB = _
  unfold putM
  rw [if_pos (by rw [hmo, he]; omega)]
theorem fi_none {most : Int} {i : Nat} {q : Q} (h : FI most i q) (hi : i ≤ 12) (he0 : q.es.length = 0) : ansQ q .lease = (q, zE, 7) := by
  obtain ⟨fs, rs, hg, hl, he, hf, hfs, hmo⟩ := h
  rw [hg.ans (by omega) .lease]
  show leaseM q = _
  unfold leaseM
  have : q.es = [] := List.length_eq_zero_iff.1 he0
  rw [this]
  rfl
theorem fi_end {most : Int} {i : Nat} {q : Q} (h : FI most i q) (hi : i ≤ 12) (hm : 1 ≤ most ∧ most ≤ 1024) (he0 : q.es.length ≠ 0) : ∃ q1 e q2 q3 v, ansQ q .lease = (q1, e, 0) ∧ ansQ q1 (.ack e.seq) = (q2, zE, 0) ∧ ansQ q2 (.put yB) = (q3, v, 0) ∧ q3.es.length = q.es.length ∧ e.seq < 4611686018427387904 := by
  obtain ⟨fs, rs, hg, hl, he, hf, hfs, hmo⟩ := h
  obtain ⟨e0, t0, hes⟩ : ∃ e t, q.es = e :: t := by
    cases hx : q.es with
    | nil => rw [hx] at he0; simp at he0
    | cons e t => exact ⟨e, t, rfl⟩
  have hfr : freeAt q.es = some 0 := by
    rw [hes]; unfold freeAt
    rw [List.findIdx?_cons, hf e0 (by rw [hes]; exact List.mem_cons_self)]
    rfl
  have hx : q.es[0]? = some e0 := by rw [hes]; rfl
  have hl1 : leaseM q = (⟨q.l, q.es.set 0 (leaseE e0), q.most⟩, leaseE e0, 0) := by
    unfold leaseM; rw [hfr]; simp only [hx]
  have g1 := hg.set hx (e2 := leaseE e0) rfl
  have hR1 := g1.R (by omega)
  have hso := sort_in hR1.2.2.2
  have hx1 : (q.es.set 0 (leaseE e0))[0]? = some (leaseE e0) := by rw [hes]; rfl
  have hh := held_of hso hx1 rfl
  have hsq := (inM_lt hg.inE (List.mem_of_getElem? hx)).1
  have hal := hg.ans (by omega) .lease
  have haa := g1.ans (by omega) (.ack (leaseE e0).seq)
  rcases qg_ack (s := (leaseE e0).seq) (i := 0) (e := leaseE e0) g1 (by omega) hh hx1 rfl with ⟨c4, fs4, fr4, rs4, g4, l4, s4, v4, m4⟩ | ⟨_, hn, _⟩
  rotate_left
  · omega
  obtain ⟨⟨q4, v4', c4'⟩, hq4⟩ : ∃ r, ackM ⟨q.l, q.es.set 0 (leaseE e0), q.most⟩ (leaseE e0).seq = r := ⟨_, rfl⟩
  rw [hq4] at c4 g4 s4 v4 m4
  simp only at c4 g4 s4 v4 m4
  subst c4 v4
  have hlen4 : q4.es.length + 1 = q.es.length := by
    rw [s4, List.length_eraseIdx, set_len]
    split <;> omega
  have hap := g4.ans (by omega) (.put yB)
  rcases qg_put (d := yB) g4 (by omega) (by rw [m4, hmo]; omega) (by decide) with ⟨c5, fs5, a5, b5, g5, l5, s5, v5, m5⟩ | ⟨_, hn, _⟩
  rotate_left
  · omega
  obtain ⟨⟨q5, v5', c5'⟩, hq5⟩ : ∃ r, putM q4 yB = r := ⟨_, rfl⟩
  rw [hq5] at c5 g5 s5 v5 m5
  simp only at c5 g5 s5 v5 m5
  subst c5
  refine ⟨_, leaseE e0, q4, q5, v5', hal.trans hl1, haa.trans hq4, hap.trans hq5, by rw [s5, List.length_append, List.length_singleton]; omega, ?_⟩
  show e0.seq < _
  omega
def OI (size most : Int) (want : List ByteArray) (q : Q) : Prop := ∃ fs rs, QG q fs 1 rs (-1) (-1) size (1 + rs.length) ∧ rs.length = want.length ∧ q.es.map E.data = want ∧ (∀ e ∈ q.es, e.leased = false) ∧ (want.length : Int) ≤ most ∧ q.most = most ∧ (1 ≤ most ∧ most ≤ 1024)
theorem oi_zero {size most : Int} (hs : 1 ≤ size ∧ size ≤ 262144) (hm : 1 ≤ most ∧ most ≤ 1024) : OI size most [] (q0Q size most) :=
  ⟨[], [], qg_nil hs hm, rfl, rfl, (fun e h => by simp at h), by simp; omega, rfl, hm⟩
theorem oi_put {size most : Int} {want : List ByteArray} {q : Q} (h : OI size most want q) (s : ByteArray) :
    ((ansQ q (.put s)).2.2 = 0 ∧ OI size most (want ++ [s]) (ansQ q (.put s)).1) ∨ ((ansQ q (.put s)).2.2 ≠ 0 ∧ ((ansQ q (.put s)).1.l.broken = true ∨ 65536 ≤ s.size ∨ most ≤ (q.es.length : Int))) := by
  obtain ⟨fs, rs, hg, hl, he, hf, hw, hmo, hm⟩ := h
  have hel : q.es.length = want.length := by rw [← he, List.length_map]
  rw [hg.ans (by omega) (.put s)]
  show ((putM q s).2.2 = 0 ∧ OI size most (want ++ [s]) (putM q s).1) ∨ ((putM q s).2.2 ≠ 0 ∧ ((putM q s).1.l.broken = true ∨ _))
  by_cases h1 : q.most ≤ (q.es.length : Int)
  · right
    unfold putM
    rw [if_pos h1]
    exact ⟨by simp, .inr (.inr (by omega))⟩
  by_cases h2 : 65535 < s.size
  · right
    unfold putM
    rw [if_neg h1, if_pos h2]
    exact ⟨by simp, .inr (.inl (by omega))⟩
  rcases qg_put (d := s) hg (by omega) h1 h2 with ⟨c1, fs1, a1, b1, g1, l1, s1, v1, m1⟩ | ⟨h8, _, hb, _⟩
  · left
    refine ⟨c1, fs1, _, g1.tight, ?_, ?_, ?_, ?_, by rw [m1, hmo], hm⟩
    · simp only [List.length_append, List.length_singleton]; omega
    · rw [s1, List.map_append, he]; rfl
    · intro e h
      rw [s1] at h
      rcases List.mem_append.1 h with k | k
      · exact hf e k
      · rw [List.mem_singleton] at k; subst k; rfl
    · simp only [List.length_append, List.length_singleton]; omega
  · right
    exact ⟨by omega, .inl hb⟩
def OJ (size : Int) (j : Nat) (rest : List ByteArray) (q : Q) : Prop := ∃ fs fr rs, QG q fs fr rs (-1) (-1) size (1025 + j) ∧ q.es.map E.data = rest ∧ ∀ e ∈ q.es, e.leased = false
theorem oi_oj {size most : Int} {want : List ByteArray} {q : Q} (h : OI size most want q) : OJ size 0 want q := by
  obtain ⟨fs, rs, hg, hl, he, hf, hw, hmo, hm⟩ := h
  exact ⟨fs, 1, rs, hg.mono (by omega), he, hf⟩
theorem oj_none {size : Int} {j : Nat} {q : Q} (h : OJ size j [] q) (hj : j ≤ 1024) : ansQ q .lease = (q, zE, 7) ∧ q.es = [] := by
  obtain ⟨fs, fr, rs, hg, he, hf⟩ := h
  have hq : q.es = [] := by simpa using he
  refine ⟨?_, hq⟩
  rw [hg.ans (by omega) .lease]
  show leaseM q = _
  unfold leaseM
  rw [hq]
  rfl
theorem held_none {es : List E} (h : ∀ e ∈ es, e.leased = false) (s : Nat) : heldAt es s = none := by
  unfold heldAt
  rw [List.findIdx?_eq_none_iff]
  intro x hx
  rw [h x hx]; rfl
theorem ack_full_right {q : Q} {fs : List F} {fr : Nat} {rs : List Rec} {size : Int} {K s i : Nat} (h : QG q fs fr rs (-1) (-1) size K) (hK : K < 4611686018427387904) (hh : heldAt q.es s = some i) (hi : i < q.es.length) (hes : (ackM q s).1.es = q.es) : QRight (ackM q s).1 := by
  have hR := h.R (by omega)
  have nu : Num (-1) := by unfold Num; omega
  have hF := app_facts (l := q.l) (d := ackB s) hR.1 (by rw [h.l]; exact nu) (by rw [h.l]; exact nu)
  unfold ackM at hes ⊢
  rw [hh] at hes ⊢
  simp only at hes ⊢
  by_cases h0 : (appM q.l (ackB s)).2 = 0
  · rw [if_pos h0] at hes
    simp only at hes
    have := congrArg List.length hes
    rw [List.length_eraseIdx, if_pos hi] at this
    omega
  · rw [if_neg h0]
    obtain ⟨_, h5, h6, h7⟩ := hR
    exact ⟨hF.R, h5, h6, by show inM (appM q.l (ackB s)).1.nx.toNat (appM q.l (ackB s)).1.fr.toNat q.es; rw [(hF.no h0).2, hF.fr]; exact h7⟩
theorem oj_step {size : Int} {j : Nat} {s : ByteArray} {rest : List ByteArray} {q : Q} (h : OJ size j (s :: rest) q) (hj : j ≤ 1024) :
    ∃ q1 e, ansQ q .lease = (q1, e, 0) ∧ e.data = s ∧ e.seq < 4611686018427387904 ∧ ∃ q2 c2, ansQ q1 (.ack e.seq) = (q2, zE, c2) ∧ (∃ q3 c3, ansQ q2 (.ack e.seq) = (q3, zE, c3) ∧ (c3 = 19 ∨ c3 ≠ 19 ∧ q3.l.broken = true)) ∧ (c2 = 0 ∧ OJ size (j + 1) rest q2 ∨ c2 = 8) := by
  obtain ⟨fs, fr, rs, hg, he, hf⟩ := h
  obtain ⟨e0, t0, hes⟩ : ∃ e t, q.es = e :: t := by
    cases hx : q.es with
    | nil => rw [hx] at he; simp at he
    | cons e t => exact ⟨e, t, rfl⟩
  rw [hes, List.map_cons] at he
  injection he with hd ht
  have hfr : freeAt q.es = some 0 := by
    rw [hes]; unfold freeAt
    rw [List.findIdx?_cons, hf e0 (by rw [hes]; exact List.mem_cons_self)]
    rfl
  have hx : q.es[0]? = some e0 := by rw [hes]; rfl
  have hl1 : leaseM q = (⟨q.l, q.es.set 0 (leaseE e0), q.most⟩, leaseE e0, 0) := by
    unfold leaseM; rw [hfr]; simp only [hx]
  have g1 := hg.set hx (e2 := leaseE e0) rfl
  have hR1 := g1.R (by omega)
  have hso := sort_in hR1.2.2.2
  have hx1 : (q.es.set 0 (leaseE e0))[0]? = some (leaseE e0) := by rw [hes]; rfl
  have hh := held_of hso hx1 rfl
  have hsq := (inM_lt hg.inE (List.mem_of_getElem? hx)).1
  have hbd := hg.bd
  have hal := hg.ans (by omega) .lease
  have haa := g1.ans (by omega) (.ack (leaseE e0).seq)
  refine ⟨_, leaseE e0, hal.trans hl1, hd, by show e0.seq < _; omega, ?_⟩
  rcases qg_ack (s := (leaseE e0).seq) (i := 0) (e := leaseE e0) g1 (by omega) hh hx1 rfl with ⟨c4, fs4, fr4, rs4, g4, l4, s4, v4, m4⟩ | ⟨c8, h64, hb8, v8, s8⟩
  · obtain ⟨⟨q4, v4', c4'⟩, hq4⟩ : ∃ r, ackM ⟨q.l, q.es.set 0 (leaseE e0), q.most⟩ (leaseE e0).seq = r := ⟨_, rfl⟩
    rw [hq4] at c4 g4 s4 v4 m4
    simp only at c4 g4 s4 v4 m4
    subst c4 v4
    have hq4es : q4.es = t0 := by rw [s4, hes]; rfl
    have hfree : ∀ e ∈ q4.es, e.leased = false := fun e h => hf e (by rw [hes]; rw [hq4es] at h; exact List.mem_cons_of_mem _ h)
    refine ⟨q4, 0, haa.trans hq4, ⟨q4, 19, ?_, .inl rfl⟩, .inl ⟨rfl, fs4, fr4, rs4, g4.mono (by omega), by rw [hq4es]; exact ht, hfree⟩⟩
    rw [g4.ans (by omega) (.ack (leaseE e0).seq)]
    show ackM q4 _ = _
    unfold ackM
    rw [held_none hfree]
  · have hQR := ack_full_right g1 (by omega) hh (by rw [set_len, hes]; simp) s8
    obtain ⟨⟨q4, v4', c4'⟩, hq4⟩ : ∃ r, ackM ⟨q.l, q.es.set 0 (leaseE e0), q.most⟩ (leaseE e0).seq = r := ⟨_, rfl⟩
    rw [hq4] at c8 hb8 v8 hQR
    simp only at c8 hb8 v8 hQR
    subst c8 v8
    refine ⟨q4, 8, haa.trans hq4, ⟨q4, 6, ?_, .inr ⟨by decide, hb8⟩⟩, .inr rfl⟩
    unfold ansQ
    rw [if_pos hQR]
    unfold chQ
    rw [if_pos hb8]
def SRow (w : World) (base : Nat) (v : Value) (ss : List ByteArray) : Prop := w.ownsRow base 9 1 v ss.length (ss.map Value.string)
theorem SRow.lt {w : World} {base : Nat} {v : Value} {ss : List ByteArray} (h : SRow w base v ss) : ∀ k, v.ownBlock = some k → base ≤ k ∧ k < w.heap.size := World.ownsRow.lt h
theorem SRow.kept {w w' : World} {base : Nat} {v : Value} {ss : List ByteArray} {row : Option Nat} (h : SRow w base v ss) (hg : w.grownBy w' row) (hne : v.ownBlock = none ∨ v.ownBlock ≠ row) : SRow w' base v ss := World.ownsRow.kept h hg hne
theorem SRow.under {w w' : World} {base : Nat} {v : Value} {ss : List ByteArray} (h : SRow w base v ss) (hb : Below w.heap.size w w') : SRow w' base v ss :=
  h.kept (row := none) ⟨hb.os, hb.tape, hb.output, hb.size, fun k hk _ => hb.block k hk⟩ (by cases e : v.ownBlock <;> simp)
theorem SRow.strs {w : World} {base : Nat} {v : Value} {ss : List ByteArray} (h : SRow w base v ss) : ∃ ad cap, v = .slice ad ss.length cap ∧ Strs w w.heap.size ad ss := by
  rcases h.2 with ⟨hv, hn⟩ | ⟨g, cap, cur, hv, hbg, hg, hnc, hcm, hcs, htake⟩
  · have hx : ss = [] := List.eq_nil_of_length_eq_zero hn
    subst hx
    exact ⟨none, 0, hv, fun h => absurd rfl h⟩
  · refine ⟨some ⟨g, 0, none⟩, cap, hv, fun _ => ⟨g, 0, rfl, (Array.getElem?_eq_some_iff.1 hg).1, fun i s hs => ?_⟩⟩
    have := World.ownsRow.cells h (g := g) (by rw [hv]; rfl) i (.string s) (by simp [hs])
    rwa [show (⟨g, 0, none⟩ : Addr).add i = ⟨g, 0 + i, none⟩ by unfold Addr.add; split <;> simp_all] at this
theorem Tryz.info9 : (Tryz.prog.info? 9).map (fun i => (i.zero, i.size, i.bytes)) = some (some (.string ⟨#[]⟩), 1, 16) := by kernel_rfl
def Dis (v : Value) (ad : Option Addr) (n cap : Nat) (be : Option Addr) (m cp : Nat) (q : Q) : Prop := ∀ b, v.ownBlock = some b → (q.l.d.files ≠ [] → (Value.slice ad n cap).ownBlock ≠ some b) ∧ (q.es ≠ [] → (Value.slice be m cp).ownBlock ≠ some b)
theorem QV.lts {w W : World} {g : Nat} {q : Q} {ad : Option Addr} {n cap : Nat} {be : Option Addr} {m cp : Nat} (h : QV w W g q ad n cap be m cp) : (q.l.d.files ≠ [] → ∀ b, (Value.slice ad n cap).ownBlock = some b → b < W.heap.size) ∧ (q.es ≠ [] → ∀ b, (Value.slice be m cp).ownBlock = some b → b < W.heap.size) := by
  refine ⟨fun hne b e => h.i.l.d.i.own_lt hne b e, fun hne b e => ?_⟩
  obtain ⟨g, off, rfl, hg, _⟩ := h.i.e.2.2.2 hne
  simp [Value.ownBlock] at e
  omega
theorem QV.grown {w W W' : World} {g : Nat} {q : Q} {ad : Option Addr} {n cap : Nat} {be : Option Addr} {m cp : Nat} (h : QV w W g q ad n cap be m cp) {row : Option Nat} (hg : W.grownBy W' row)
    (hr : ∀ r, row = some r → w.heap.size ≤ r ∧ r ≠ g ∧ (q.l.d.files ≠ [] → (Value.slice ad n cap).ownBlock ≠ some r) ∧ (q.es ≠ [] → (Value.slice be m cp).ownBlock ≠ some r)) : QV w W' g q ad n cap be m cp := by
  obtain ⟨l1, l2⟩ := h.lts
  have hgl := (Array.getElem?_eq_some_iff.1 h.h).1
  refine ⟨(hg.block g hgl (fun e => (hr g e.symm).2.1 rfl)).trans h.h, ⟨⟨⟨(h.i.l.d.i.same2 (fun hne b e => hg.block b (l1 hne b e) (fun er => (hr b er.symm).2.2.1 hne e))).mono hg.size, h.i.l.d.fit, h.i.l.d.u0, h.i.l.d.u1, h.i.l.d.f0, h.i.l.d.f1⟩, h.i.l.s0, h.i.l.s1, h.i.l.f0, h.i.l.f1, h.i.l.n0, h.i.l.n1⟩, ?_, h.i.fit, h.i.m⟩, ?_, h.g⟩
  · refine EIn.mono (B := W.heap.size) ?_ hg.size
    by_cases he : q.es = []
    · refine ⟨h.i.e.1, h.i.e.2.1, h.i.e.2.2.1, ?_⟩
      rw [he]; exact Els.nil _ _ _
    · exact h.i.e.same (fun b e => hg.block b (l2 he b e) (fun er => (hr b er.symm).2.2.2 he e))
  · exact ⟨hg.os.trans h.b.os, hg.tape.trans h.b.tape, hg.output.trans h.b.output, Nat.le_trans h.b.size hg.size, fun k hk => (hg.block k (Nat.lt_of_lt_of_le hk h.b.size) (fun e => by have := (hr k e.symm).1; omega)).trans (h.b.block k hk)⟩
theorem openQ_bad {size most : Int} (h : ¬ ((1 ≤ size ∧ size ≤ 262144) ∧ 1 ≤ most ∧ most ≤ 1024)) : (openQ ⟨[], false, -1, -1⟩ size most).2 = 2 := by
  unfold openQ
  rw [if_neg (fun h => h right_nil)]
  by_cases hm : 1 ≤ most ∧ most ≤ 1024
  · have hs : ¬ (1 ≤ size ∧ size ≤ 262144) := fun hs => h ⟨hs, hm⟩
    have ho : (openM ⟨[], false, -1, -1⟩ size).2.2 = 2 := by
      unfold openM
      rw [if_neg (fun h => h right_nil), if_pos hs]
    rw [if_neg (fun h => h hm), if_pos (by rw [ho]; decide), ho]
  · rw [if_pos hm]
set_option maxHeartbeats 4000000 in
theorem order_any (w : World) (size most : Int) (adD : Option Addr) (N capD : Nat) (ss : List ByteArray) (hsz : Num size) (hmo : Num most) (hN : N = ss.length) (hN63 : N ≤ 9223372036854775807) (hS : Strs w w.heap.size adD ss) (hSb : ∀ s ∈ ss, s.size ≤ 9223372036854775000) (hT : Tabs w) (hw : 3 < w.heap.size) :
    Calls Tryz.prog 5 #[.int .i64 size, .int .i64 most, .slice adD N capD] w fun e w' => e = .returned (.bool true) ∧ Below w.heap.size w w' := by
  obtain ⟨i0, hi0, hz0, hz1, hz2⟩ := info_parts Tryz.info9
  have HT := Lib.hid hT
  have HB := Lib.hid (Below.refl w.heap.size w)
  have HD := Lib.hid (show StrsW w adD ss from hS)
  have HN := Lib.hid hN
  have HSb := Lib.hid hSb
  have Hsz := Lib.hid hsz
  have Hmo := Lib.hid hmo
  clear hT hS hN hSb
  go_enter Tryz.func5, Tryz.ntmps5
  go_wp2_with fail
  refine (qlives_any w (HT.out.under HB.out) (by have := HB.out.size; omega)).mono ?_
  rintro e w0 ⟨rfl, hb⟩
  replace HB := Lib.hid (HB.out.trans (hb.mono HB.out.size))
  clear hb
  go_wp2_with fail
  refine (qwhole_any w0).mono ?_
  rintro e w1 ⟨rfl, hb⟩
  replace HB := Lib.hid (HB.out.trans (hb.mono HB.out.size))
  clear hb
  obtain ⟨a, ha⟩ : ∃ a, openQ ⟨[], false, -1, -1⟩ size most = a := ⟨_, rfl⟩
  obtain ⟨⟨⟨⟨fs0, dn0, fu0, fa0⟩, sz0, fr0, nx0, br0⟩, es0, mo0⟩, er⟩ := a
  have HA := Lib.hid ha
  clear ha
  go_wp2_with fail
  refine (qopen_any w1 none 0 0 ⟨[], false, -1, -1⟩ size most (DIn.nothing w1 (fu := -1) (fa := -1) (by unfold Num; omega) (by unfold Num; omega)) Hsz.out Hmo.out (HT.out.under HB.out) (by have := HB.out.size; omega)).mono ?_
  rintro e w2 hP
  rw [HA.out] at hP
  obtain ⟨hb, ad0, n0, cap0, be0, m0, cp0, rfl, hq⟩ := hP
  replace HB := Lib.hid (HB.out.trans (hb.mono HB.out.size))
  clear hb
  obtain ⟨W2, hW⟩ : ∃ W, W = w2.alloc (.cells #[.slice ad0 n0 cap0, .bool dn0, .int .i64 fu0, .int .i64 fa0, .int .i64 sz0, .int .u64 fr0, .int .u64 nx0, .bool br0, .slice be0 m0 cp0, .int .i64 mo0] 30) := ⟨_, rfl⟩
  have hbW : Below w2.heap.size w2 W2 := by rw [hW]; exact (Below.refl _ w2).alloc (Nat.le_refl _) _
  have HV := Lib.hid (show QV w W2 w2.heap.size ⟨⟨⟨fs0, dn0, fu0, fa0⟩, sz0, fr0, nx0, br0⟩, es0, mo0⟩ ad0 n0 cap0 be0 m0 cp0 from ⟨by rw [hW]; exact blk_new w2 _, hq.under hbW, HB.out.trans (hbW.mono HB.out.size), HB.out.size⟩)
  replace HB := Lib.hid (HB.out.trans (hbW.mono HB.out.size))
  have HbW2 := Lib.hid hbW
  clear hbW hq
  go_upto_region 4 with (fail)
  rw [← hW]
  clear hW
  by_cases hm : (1 ≤ size ∧ size ≤ 262144) ∧ 1 ≤ most ∧ most ≤ 1024
  rotate_left
  · have e := openQ_bad hm
    rw [HA.out] at e
    simp only at e
    subst e
    clear HA HV hm
    go_wp2
    go_ret
    exact ⟨rfl, HB.out⟩
  have e := HA.out.symm.trans (openQ_nil hm.1 hm.2)
  simp only [Prod.mk.injEq] at e
  obtain ⟨hq0, rfl⟩ := e
  have hOI := oi_zero hm.1 hm.2
  rw [← hq0] at hOI
  have HOI := Lib.hid hOI
  have Hm := Lib.hid hm
  clear hOI hq0 HA hm hsz hmo
  have HGB := Lib.hid (Array.getElem?_eq_some_iff.1 HV.out.h).1
  have HSR := Lib.hid (show SRow W2 W2.heap.size (.slice none 0 0) [] from World.ownsRow_nil _ _ _ _)
  have HWB := Lib.hid HV.out.b
  obtain ⟨B, hB⟩ : ∃ B, W2.heap.size = B := ⟨_, rfl⟩
  rw [hB] at HSR HGB
  have HBW := Lib.hid (Nat.le_of_eq hB.symm)
  have hwB : w.heap.size ≤ B := by rw [← hB]; exact HWB.out.size
  have hgB := HGB.out
  clear hB HWB HGB
  go_wp2
  go_loopw [9, 39] (fun v i wr => ∃ (j : Nat) (q : Q) (ad0 : Option Addr) (n0 cap0 : Nat) (be0 : Option Addr) (m0 cp0 : Nat) (want : List ByteArray), i = .int .i64 (j : Int) ∧ j ≤ N ∧ OI size most want q ∧ QV w wr w2.heap.size q ad0 n0 cap0 be0 m0 cp0 ∧ SRow wr B v want ∧ Dis v ad0 n0 cap0 be0 m0 cp0 q ∧ B ≤ wr.heap.size) (fun v i _ => N - (intOf i).toNat)
  case atStart => exact ⟨0, _, _, _, _, _, _, _, [], rfl, Nat.zero_le _, HOI.out, HV.out, HSR.out, (fun b e => by simp [Value.ownBlock] at e), HBW.out⟩
  case round =>
    clear HOI HV HSR
    obtain ⟨j, q, ad0, n0, cap0, be0, m0, cp0, want, rfl, hj, hoi, hv, hsr, hdis, hBw⟩ := hrel
    obtain ⟨⟨⟨fs0, dn0, fu0, fa0⟩, sz0, fr0, nx0, br0⟩, es0, mo0⟩ := q
    obtain ⟨M, hM⟩ : ∃ M, want.length = M := ⟨_, rfl⟩
    have HV := Lib.hid hv
    have HOI := Lib.hid hoi
    have HSR := Lib.hid hsr
    have HDis := Lib.hid hdis
    have HB := Lib.hid HV.out.b
    have HM := Lib.hid hM
    have hMm : (M : Int) ≤ most := by obtain ⟨_, _, _, _, _, _, h, _⟩ := hoi; omega
    have hmost : most ≤ 1024 := Hm.out.2.2
    clear hv hoi hsr hdis hM
    by_cases hlt : j < N
    · have hjN : (j : Int) < (N : Int) := by omega
      obtain ⟨s, hs⟩ : ∃ s, ss[j]? = some s := ⟨ss[j]'(by have := HN.out; omega), by simp⟩
      have hsb := HSb.out s (List.mem_of_getElem? hs)
      have hsn : ss ≠ [] := by rintro rfl; simp at hs
      obtain ⟨gd, od, rfl, hgd, hcd⟩ := (HD.out.under HV.out.b) hsn
      have hc0 := hcd j s hs
      clear hcd hs hsn
      obtain ⟨a, ha⟩ : ∃ a, ansQ ⟨⟨⟨fs0, dn0, fu0, fa0⟩, sz0, fr0, nx0, br0⟩, es0, mo0⟩ (.put s) = a := ⟨_, rfl⟩
      obtain ⟨⟨⟨⟨fs1, dn1, fu1, fa1⟩, sz1, fr1, nx1, br1⟩, es1, mo1⟩, ⟨se1, da1, le1⟩, c⟩ := a
      have HA := Lib.hid ha
      have hput := oi_put HOI.out s
      rw [ha] at hput
      have Hput := Lib.hid hput
      clear ha hput
      obtain ⟨c0, c1, c2, c3, c4, c5, c6, c7, c8, c9⟩ := box10 HV.out.h
      have hlc := (Array.getElem?_eq_some_iff.1 HV.out.h).1
      go_wp2_with fail
      refine (put24_any wr ad0 n0 cap0 be0 m0 cp0 _ HV.out.i (HT.out.under HB.out) (by have := HB.out.size; omega) s hsb).mono ?_
      rintro e w5 hP
      rw [HA.out] at hP
      obtain ⟨hb, ad1, n1, cap1, be1, m1, cp1, rfl, hq, ho, hp⟩ := hP
      clear c0 c1 c2 c3 c4 c5 c6 c7 c8 c9 hlc
      clear hc0 hgd hsb
      have Ho := Lib.hid ho
      have Hp := Lib.hid hp
      have HU := Lib.hid (HV.out.under hb)
      have HSU := Lib.hid (HSR.out.under hb)
      have Hb5 := Lib.hid hb
      replace HB := Lib.hid (HB.out.trans (hb.mono HB.out.size))
      clear hb ho hp
      obtain ⟨W5, hW⟩ : ∃ W, W = w5.alloc (.cells #[.slice ad1 n1 cap1, .bool dn1, .int .i64 fu1, .int .i64 fa1, .int .i64 sz1, .int .u64 fr1, .int .u64 nx1, .bool br1, .slice be1 m1 cp1, .int .i64 mo1] 30) := ⟨_, rfl⟩
      have hbW : Below w5.heap.size w5 W5 := by rw [hW]; exact (Below.refl _ w5).alloc (Nat.le_refl _) _
      have HP := Lib.hid (show QV w W5 w5.heap.size ⟨⟨⟨fs1, dn1, fu1, fa1⟩, sz1, fr1, nx1, br1⟩, es1, mo1⟩ ad1 n1 cap1 be1 m1 cp1 from ⟨by rw [hW]; exact blk_new w5 _, hq.under hbW, HB.out.trans (hbW.mono HB.out.size), HB.out.size⟩)
      replace HU := Lib.hid (HU.out.under hbW)
      replace HSU := Lib.hid (HSU.out.under hbW)
      replace HB := Lib.hid (HB.out.trans (hbW.mono HB.out.size))
      have HbW5 := Lib.hid hbW
      clear hbW hq
      go_upto_region 11 with (fail)
      rw [← hW]
      clear hW
      rcases Hput.out with hput | hput
      · obtain ⟨hc, hoi2⟩ := hput
        replace hc : c = 0 := hc
        replace hoi2 : OI size most (want ++ [s]) ⟨⟨⟨fs1, dn1, fu1, fa1⟩, sz1, fr1, nx1, br1⟩, es1, mo1⟩ := hoi2
        subst hc
        have HO2 := Lib.hid hoi2
        clear hoi2
        obtain ⟨d0, d1, d2, d3, d4, d5, d6, d7, d8, d9⟩ := box10 HP.out.h
        have hld := (Array.getElem?_eq_some_iff.1 HP.out.h).1
        obtain ⟨y0, y1, y2, y3, y4, y5, y6, y7, y8, y9⟩ := box10 HU.out.h
        have hly := (Array.getElem?_eq_some_iff.1 HU.out.h).1
        obtain ⟨z0, z1, z2, z3, z4, z5, z6, z7, z8, z9⟩ := frz10 HU.out.h
        go_upto_region 13 with (fail)
        obtain ⟨G, hG⟩ : ∃ G, G = ((((((((((W5).setCell ⟨w2.heap.size, 0, none⟩ (.slice ad1 n1 cap1)).setCell ⟨w2.heap.size, 1, none⟩ (.bool dn1)).setCell ⟨w2.heap.size, 2, none⟩ (.int .i64 fu1)).setCell ⟨w2.heap.size, 3, none⟩ (.int .i64 fa1)).setCell ⟨w2.heap.size, 4, none⟩ (.int .i64 sz1)).setCell ⟨w2.heap.size, 5, none⟩ (.int .u64 fr1)).setCell ⟨w2.heap.size, 6, none⟩ (.int .u64 nx1)).setCell ⟨w2.heap.size, 7, none⟩ (.bool br1)).setCell ⟨w2.heap.size, 8, none⟩ (.slice be1 m1 cp1)).setCell ⟨w2.heap.size, 9, none⟩ (.int .i64 mo1) := ⟨_, rfl⟩
        rw [← hG]
        have HV2 := Lib.hid (HV.out.put (Hb5.out.trans (HbW5.out.mono Hb5.out.size)) HP.out.i Ho.out Hp.out hG)
        have hne : ∀ b, u9.ownBlock = some b → B ≤ b ∧ b < wr.heap.size := HSR.out.lt
        have hGs : G.heap.size = W5.heap.size := by rw [hG]; exact put10_size _ _ _ _ _ _ _ _ _ _ _ _
        have hgr : W5.grownBy G (some w2.heap.size) := by rw [hG]; exact put10_grown _ _ _ _ _ _ _ _ _ _ _ _
        have HS2 := Lib.hid (HSU.out.kept hgr (by
          cases e : u9.ownBlock with
          | none => exact .inl rfl
          | some b => exact .inr (fun h => by injection h with h; have := (hne b e).1; omega)))
        have HDis2 := Lib.hid (show Dis u9 ad1 n1 cap1 be1 m1 cp1 ⟨⟨⟨fs1, dn1, fu1, fa1⟩, sz1, fr1, nx1, br1⟩, es1, mo1⟩ from fun b e => ⟨fun _ h => by have h1 := Ho.out b h; have h2 := (hne b e).2; omega, fun _ h => by have h1 := Hp.out b h; have h2 := (hne b e).2; omega⟩)
        have Hne := Lib.hid hne
        clear d0 d1 d2 d3 d4 d5 d6 d7 d8 d9 hld y0 y1 y2 y3 y4 y5 y6 y7 y8 y9 hly z0 z1 z2 z3 z4 z5 z6 z7 z8 z9 hG hgr hne
        have hsG := HV2.out.b.size
        have hal := (Below.refl G.heap.size G).alloc (Nat.le_refl _) (.cells #[.string s] 9)
        have HV3 := Lib.hid (HV2.out.under hal)
        have Hown := Lib.hid (World.ownsRow.alloc HS2.out (.cells #[.string s] 9))
        have hnews := cell_one_new G (.string s) 9
        rw [hGs] at hnews
        have Hnews := Lib.hid hnews
        clear hnews
        have hBG : B ≤ G.heap.size := by have h1 := Hb5.out.size; have h2 := HbW5.out.size; omega
        clear hal
        have chk := fun (ops : Array Oper) (rest : List Oper) (o : Oper) (a : Act) (Q : Exit → Act → World → Prop) (hgd : o.guard = none) (ho : o.op = .call { callee := .builtin .append, args := #[.tmp 53, .tmp 55], argTypes := #[54, 54] }) (hs : a.eval (.tmp 53) = u9) (hx : a.eval (.tmp 55) = .slice (some ⟨W5.heap.size, 0, none⟩) 1 1) => wpList_append_own_at (ops := ops) (rest := rest) (Q := Q) _ hgd (.tmp 53) (.tmp 55) 54 ho B 9 i0 _ 1 16 Tryz.underlying54 hi0 hz0 hz1 hz2 rfl (by decide) u9 _ _ hs Hown.out ⟨W5.heap.size, 0, none⟩ 1 1 [.string s] hx rfl Hnews.out (fun u hu => by simp at hu; subst hu; rfl) (by have := HM.out; simp [maxLen]; omega) (by have := HM.out; simp; omega) (by have := HM.out; simp; omega)
        have Hchk := Lib.hid chk
        clear chk
        go_wp2_with (at_builtin; refine Hchk.out _ _ _ _ _ rfl rfl rfl rfl ?_)
        intro v' w' h1 h2 h3 h4
        have HV4 := Lib.hid (HV3.out.grown h2 (fun r hr => ⟨by have := (Hne.out r hr).1; omega, by have := (Hne.out r hr).1; omega, (HDis2.out r hr).1, (HDis2.out r hr).2⟩))
        have HS4 := Lib.hid (show SRow w' B v' (want ++ [s]) from by unfold SRow; simpa using h1)
        have hl3 := HV3.out.lts
        have hs3 : (G.alloc (.cells #[.string s] 9)).heap.size = W5.heap.size + 1 := by rw [World.size_alloc, hGs]
        rw [hs3] at hl3
        have HDis4 := Lib.hid (show Dis v' ad1 n1 cap1 be1 m1 cp1 ⟨⟨⟨fs1, dn1, fu1, fa1⟩, sz1, fr1, nx1, br1⟩, es1, mo1⟩ from fun b e => by
          rcases h4 with h4 | h4
          · exact HDis2.out b (h4.symm.trans e)
          · rw [h4] at e
            injection e with e
            exact ⟨fun hne h => by have := hl3.1 hne b h; omega, fun hne h => by have := hl3.2 hne b h; omega⟩)
        have HBw4 := Lib.hid (show B ≤ w'.heap.size from by have := h2.size; omega)
        clear h1 h2 h3 h4 hl3 hs3
        go_wp2
        go_roundw
        case rel => exact ⟨j + 1, _, ad1, n1, cap1, be1, m1, cp1, want ++ [s], by go_num, by omega, HO2.out, HV4.out, HS4.out, HDis4.out, HBw4.out⟩
        case measure => simp [intOf]; omega
      · obtain ⟨hc, hor⟩ := hput
        replace hc : c ≠ 0 := hc
        replace hor : br1 = true ∨ 65536 ≤ s.size ∨ most ≤ (es0.length : Int) := hor
        have hm0 : m0 = es0.length := HU.out.i.e.1
        rw [← hm0] at hor
        clear hm0
        obtain ⟨d0, d1, d2, d3, d4, d5, d6, d7, d8, d9⟩ := box10 HP.out.h
        have hld := (Array.getElem?_eq_some_iff.1 HP.out.h).1
        obtain ⟨y0, y1, y2, y3, y4, y5, y6, y7, y8, y9⟩ := box10 HU.out.h
        have hly := (Array.getElem?_eq_some_iff.1 HU.out.h).1
        have hBw5 : B ≤ W5.heap.size := by have h1 := Hb5.out.size; have h2 := HbW5.out.size; omega
        have hend : (br1 = true) ∨ (br1 = false ∧ (65536 : Int) ≤ (s.size : Int)) ∨ (br1 = false ∧ (s.size : Int) < 65536 ∧ most ≤ (m0 : Int)) := by
          cases hb : br1 with
          | true => exact .inl rfl
          | false =>
            rw [hb] at hor
            by_cases h : (65536 : Int) ≤ (s.size : Int)
            · exact .inr (.inl ⟨rfl, h⟩)
            · refine .inr (.inr ⟨rfl, by omega, ?_⟩)
              rcases hor with h1 | h1 | h1
              · cases h1
              · omega
              · exact h1
        clear hor
        obtain ⟨zs, hzs⟩ : ∃ z : Int, (s.size : Int) = z := ⟨_, rfl⟩
        rw [hzs] at hend
        rcases hend with rfl | ⟨rfl, hl⟩ | ⟨rfl, hl, hl2⟩
        · go_wp2
          go_roundw
          case rel => exact ⟨j + 1, _, ad0, n0, cap0, be0, m0, cp0, want, by go_num, by omega, HOI.out, HU.out, HSU.out, HDis.out, hBw5⟩
          case measure => simp [intOf]; omega
        · go_wp2
          go_roundw
          case rel => exact ⟨j + 1, _, ad0, n0, cap0, be0, m0, cp0, want, by go_num, by omega, HOI.out, HU.out, HSU.out, HDis.out, hBw5⟩
          case measure => simp [intOf]; omega
        · go_wp2
          go_roundw
          case rel => exact ⟨j + 1, _, ad0, n0, cap0, be0, m0, cp0, want, by go_num, by omega, HOI.out, HU.out, HSU.out, HDis.out, hBw5⟩
          case measure => simp [intOf]; omega
    · have hjN : ¬ (j : Int) < (N : Int) := by omega
      have hst := HSR.out.strs
      rw [HM.out] at hst
      obtain ⟨adv, capv, rfl, _⟩ := hst
      have HOJ := Lib.hid (oi_oj HOI.out)
      clear HOI HDis HB hj hlt
      obtain ⟨wo, rfl⟩ : ∃ wo, wo = wr := ⟨_, rfl⟩
      have hM32 : (M : Int) ≤ 1024 := by omega
      have hMM : M ≤ 1024 := by omega
      go_wp2
      go_loopw [80] (fun i wr2 => ∃ (j2 : Nat) (q : Q) (ad0 : Option Addr) (n0 cap0 : Nat) (be0 : Option Addr) (m0 cp0 : Nat), i = .int .i64 (j2 : Int) ∧ j2 ≤ M ∧ OJ size j2 (want.drop j2) q ∧ QV w wr2 w2.heap.size q ad0 n0 cap0 be0 m0 cp0 ∧ SRow wr2 B (.slice adv M capv) want) (fun i _ => M - (intOf i).toNat)
      case atStart => exact ⟨0, _, _, _, _, _, _, _, rfl, Nat.zero_le _, HOJ.out, HV.out, HSR.out⟩
      case round =>
        clear HOJ HV HSR
        obtain ⟨j2, q, ad0, n0, cap0, be0, m0, cp0, rfl, hj2, hoj, hv, hsr⟩ := hrel
        obtain ⟨⟨⟨fs0, dn0, fu0, fa0⟩, sz0, fr0, nx0, br0⟩, es0, mo0⟩ := q
        have HV := Lib.hid hv
        have HOJ := Lib.hid hoj
        have HSR := Lib.hid hsr
        have HB := Lib.hid HV.out.b
        clear hv hoj hsr
        by_cases hlt2 : j2 < M
        · have hjI : (j2 : Int) < (M : Int) := by omega
          have hjM : j2 + 1 ≤ M := by omega
          obtain ⟨s, hs⟩ : ∃ s, want[j2]? = some s := ⟨want[j2]'(by have := HM.out; omega), by simp⟩
          have hdr : want.drop j2 = s :: want.drop (j2 + 1) := by
            obtain ⟨h1, h2⟩ := List.getElem?_eq_some_iff.1 hs
            rw [← h2]; exact List.drop_eq_getElem_cons h1
          have hoj := HOJ.out
          rw [hdr] at hoj
          obtain ⟨q1, e, h1, hed, hse, q2, c2, h2, ⟨q3, c3, h3, hc3⟩, hway⟩ := oj_step hoj (by omega)
          obtain ⟨⟨⟨fs1, dn1, fu1, fa1⟩, sz1, fr1, nx1, br1⟩, es1, mo1⟩ := q1
          obtain ⟨se1, da1, le1⟩ := e
          obtain ⟨⟨⟨fs2, dn2, fu2, fa2⟩, sz2, fr2, nx2, br2⟩, es2, mo2⟩ := q2
          obtain ⟨⟨⟨fs3, dn3, fu3, fa3⟩, sz3, fr3, nx3, br3⟩, es3, mo3⟩ := q3
          replace hed : da1 = s := hed
          replace hse : se1 < 4611686018427387904 := hse
          subst hed
          have hst := HSR.out.strs
          rw [HM.out] at hst
          obtain ⟨adx, capx, hex, hstr⟩ := hst
          injection hex with hex1 _ hex3
          subst hex1 hex3
          have hwn : want ≠ [] := by rintro rfl; simp at hs
          obtain ⟨gv, ov, rfl, hgv, hcv⟩ := hstr hwn
          have p0 := hcv j2 da1 hs
          have H1 := Lib.hid h1
          have HVr := Lib.hid HV.out
          have H2 := Lib.hid h2
          have H3 := Lib.hid h3
          have Hw := Lib.hid hway
          have Hc3 := Lib.hid hc3
          clear hoj h1 h2 h3 hway hc3 hstr hwn hcv hs HOJ
          obtain ⟨c0, c1, c2, c3, c4, c5, c6, c7, c8, c9⟩ := box10 HV.out.h
          have hlc := (Array.getElem?_eq_some_iff.1 HV.out.h).1
          go_wp2_with fail
          refine (lease25_any wr ad0 n0 cap0 be0 m0 cp0 _ HV.out.i (HT.out.under HB.out) (by have := HB.out.size; omega) ).mono ?_
          rintro e w5 hP
          rw [H1.out] at hP
          obtain ⟨hb, ad1, n1, cap1, be1, m1, cp1, rfl, hq, ho, hp⟩ := hP
          clear c0 c1 c2 c3 c4 c5 c6 c7 c8 c9 hlc
          have Ho1 := Lib.hid ho
          have Hp1 := Lib.hid hp
          have HcX1 := Lib.hid hb
          replace HV := Lib.hid (HV.out.under hb)
          replace HSR := Lib.hid (HSR.out.under hb)
          replace HB := Lib.hid (HB.out.trans (hb.mono HB.out.size))
          clear hb ho hp
          clear p0 hgv
          obtain ⟨W5, hW⟩ : ∃ W, W = (w5.alloc (.cells #[.slice ad1 n1 cap1, .bool dn1, .int .i64 fu1, .int .i64 fa1, .int .i64 sz1, .int .u64 fr1, .int .u64 nx1, .bool br1, .slice be1 m1 cp1, .int .i64 mo1] 30)).alloc (.cells #[.int .u64 (se1 : Int), .string da1, .bool le1] 39) := ⟨_, rfl⟩
          have hbW : Below w5.heap.size w5 W5 := by rw [hW]; exact ((Below.refl _ w5).alloc (Nat.le_refl _) _).alloc (by simp) _
          have HP := Lib.hid (show QV w W5 w5.heap.size ⟨⟨⟨fs1, dn1, fu1, fa1⟩, sz1, fr1, nx1, br1⟩, es1, mo1⟩ ad1 n1 cap1 be1 m1 cp1 from ⟨by rw [hW]; exact blk_alloc (blk_new w5 _) _, hq.under hbW, HB.out.trans (hbW.mono HB.out.size), HB.out.size⟩)
          have HE := Lib.hid (show Blk W5 (w5.heap.size + 1) #[.int .u64 (se1 : Int), .string da1, .bool le1] 39 from by rw [hW]; exact blk_at (by simp))
          replace HV := Lib.hid (HV.out.under hbW)
          replace HSR := Lib.hid (HSR.out.under hbW)
          replace HB := Lib.hid (HB.out.trans (hbW.mono HB.out.size))
          have HbW5 := Lib.hid hbW
          clear hbW hq
          go_upto_region 23 with (fail)
          rw [← hW]
          clear hW
          obtain ⟨x0, x1, x2⟩ := box3 HE.out
          have hlx := HE.out.lt
          obtain ⟨c0, c1, c2, c3, c4, c5, c6, c7, c8, c9⟩ := box10 HP.out.h
          have hlc := (Array.getElem?_eq_some_iff.1 HP.out.h).1
          go_wp2_with fail
          refine (ack26_any W5 ad1 n1 cap1 be1 m1 cp1 _ HP.out.i (HT.out.under HB.out) (by have := HB.out.size; omega) se1 (by omega)).mono ?_
          rintro e w6 hP
          rw [H2.out] at hP
          obtain ⟨hb, ad2, n2, cap2, be2, m2, cp2, rfl, hq, ho, hp⟩ := hP
          clear c0 c1 c2 c3 c4 c5 c6 c7 c8 c9 hlc
          have Ho2 := Lib.hid ho
          have Hp2 := Lib.hid hp
          have HcX2 := Lib.hid hb
          replace HV := Lib.hid (HV.out.under hb)
          replace HSR := Lib.hid (HSR.out.under hb)
          replace HP := Lib.hid (HP.out.under hb)
          replace HE := Lib.hid (HE.out.under hb)
          replace HB := Lib.hid (HB.out.trans (hb.mono HB.out.size))
          clear hb ho hp
          clear x0 x1 x2 hlx
          obtain ⟨W6, hW⟩ : ∃ W, W = w6.alloc (.cells #[.slice ad2 n2 cap2, .bool dn2, .int .i64 fu2, .int .i64 fa2, .int .i64 sz2, .int .u64 fr2, .int .u64 nx2, .bool br2, .slice be2 m2 cp2, .int .i64 mo2] 30) := ⟨_, rfl⟩
          have hbW : Below w6.heap.size w6 W6 := by rw [hW]; exact (Below.refl _ w6).alloc (Nat.le_refl _) _
          have HQ := Lib.hid (show QV w W6 w6.heap.size ⟨⟨⟨fs2, dn2, fu2, fa2⟩, sz2, fr2, nx2, br2⟩, es2, mo2⟩ ad2 n2 cap2 be2 m2 cp2 from ⟨by rw [hW]; exact blk_new w6 _, hq.under hbW, HB.out.trans (hbW.mono HB.out.size), HB.out.size⟩)
          replace HV := Lib.hid (HV.out.under hbW)
          replace HSR := Lib.hid (HSR.out.under hbW)
          replace HP := Lib.hid (HP.out.under hbW)
          replace HE := Lib.hid (HE.out.under hbW)
          replace HB := Lib.hid (HB.out.trans (hbW.mono HB.out.size))
          have HbW6 := Lib.hid hbW
          clear hbW hq
          go_upto_region 24 with (fail)
          rw [← hW]
          clear hW
          obtain ⟨x0, x1, x2⟩ := box3 HE.out
          have hlx := HE.out.lt
          obtain ⟨c0, c1, c2, c3, c4, c5, c6, c7, c8, c9⟩ := box10 HQ.out.h
          have hlc := (Array.getElem?_eq_some_iff.1 HQ.out.h).1
          go_wp2_with fail
          refine (ack26_any W6 ad2 n2 cap2 be2 m2 cp2 _ HQ.out.i (HT.out.under HB.out) (by have := HB.out.size; omega) se1 (by omega)).mono ?_
          rintro e w7 hP
          rw [H3.out] at hP
          obtain ⟨hb, ad3, n3, cap3, be3, m3, cp3, rfl, hq, ho, hp⟩ := hP
          clear c0 c1 c2 c3 c4 c5 c6 c7 c8 c9 hlc
          have Ho3 := Lib.hid ho
          have Hp3 := Lib.hid hp
          have HcX3 := Lib.hid hb
          replace HV := Lib.hid (HV.out.under hb)
          replace HSR := Lib.hid (HSR.out.under hb)
          replace HP := Lib.hid (HP.out.under hb)
          replace HE := Lib.hid (HE.out.under hb)
          replace HQ := Lib.hid (HQ.out.under hb)
          replace HB := Lib.hid (HB.out.trans (hb.mono HB.out.size))
          clear hb ho hp
          clear x0 x1 x2 hlx
          obtain ⟨W7, hW⟩ : ∃ W, W = w7.alloc (.cells #[.slice ad3 n3 cap3, .bool dn3, .int .i64 fu3, .int .i64 fa3, .int .i64 sz3, .int .u64 fr3, .int .u64 nx3, .bool br3, .slice be3 m3 cp3, .int .i64 mo3] 30) := ⟨_, rfl⟩
          have hbW : Below w7.heap.size w7 W7 := by rw [hW]; exact (Below.refl _ w7).alloc (Nat.le_refl _) _
          have HR := Lib.hid (show QV w W7 w7.heap.size ⟨⟨⟨fs3, dn3, fu3, fa3⟩, sz3, fr3, nx3, br3⟩, es3, mo3⟩ ad3 n3 cap3 be3 m3 cp3 from ⟨by rw [hW]; exact blk_new w7 _, hq.under hbW, HB.out.trans (hbW.mono HB.out.size), HB.out.size⟩)
          replace HV := Lib.hid (HV.out.under hbW)
          replace HSR := Lib.hid (HSR.out.under hbW)
          replace HP := Lib.hid (HP.out.under hbW)
          replace HE := Lib.hid (HE.out.under hbW)
          replace HQ := Lib.hid (HQ.out.under hbW)
          replace HB := Lib.hid (HB.out.trans (hbW.mono HB.out.size))
          have HbW7 := Lib.hid hbW
          clear hbW hq
          go_upto_region 25 with (fail)
          rw [← hW]
          clear hW
          have hend : (c3 = 19 ∨ c3 ≠ 19 ∧ br3 = true) := Hc3.out
          have hB7 : Below wr.heap.size wr W7 := ((((HcX1.out.trans (HbW5.out.mono HcX1.out.size)).trans (HcX2.out.mono (by have := HcX1.out.size; have := HbW5.out.size; omega))).trans (HbW6.out.mono (by have := HcX1.out.size; have := HbW5.out.size; have := HcX2.out.size; omega))).trans (HcX3.out.mono (by have := HcX1.out.size; have := HbW5.out.size; have := HcX2.out.size; have := HbW6.out.size; omega))).trans (HbW7.out.mono (by have := HcX1.out.size; have := HbW5.out.size; have := HcX2.out.size; have := HbW6.out.size; have := HcX3.out.size; omega))
          have hW5 : wr.heap.size ≤ W5.heap.size := by have := HcX1.out.size; have := HbW5.out.size; omega
          have HB7 := Lib.hid hB7
          clear hB7
          obtain ⟨x0, x1, x2⟩ := box3 HE.out
          have hlx := HE.out.lt
          obtain ⟨d0, d1, d2, d3, d4, d5, d6, d7, d8, d9⟩ := box10 HR.out.h
          have hld := (Array.getElem?_eq_some_iff.1 HR.out.h).1
          rcases hend with rfl | ⟨hc3, rfl⟩
          all_goals
            rcases Hw.out with ⟨hc2, hoj2⟩ | hc2
            · subst hc2
              have HO2 := Lib.hid hoj2
              clear hoj2 Hw
              go_upto_region 29 with (fail)
              clear d0 d1 d2 d3 d4 d5 d6 d7 d8 d9 hld x0 x1 x2 hlx
              obtain ⟨c0, c1, c2, c3', c4, c5, c6, c7, c8, c9⟩ := box10 HQ.out.h
              have hlc := (Array.getElem?_eq_some_iff.1 HQ.out.h).1
              obtain ⟨y0, y1, y2, y3, y4, y5, y6, y7, y8, y9⟩ := box10 HV.out.h
              have hly := (Array.getElem?_eq_some_iff.1 HV.out.h).1
              obtain ⟨z0, z1, z2, z3, z4, z5, z6, z7, z8, z9⟩ := frz10 HV.out.h
              go_upto_region 30 with (fail)
              obtain ⟨G, hG⟩ : ∃ G, G = ((((((((((W7).setCell ⟨w2.heap.size, 0, none⟩ (.slice ad2 n2 cap2)).setCell ⟨w2.heap.size, 1, none⟩ (.bool dn2)).setCell ⟨w2.heap.size, 2, none⟩ (.int .i64 fu2)).setCell ⟨w2.heap.size, 3, none⟩ (.int .i64 fa2)).setCell ⟨w2.heap.size, 4, none⟩ (.int .i64 sz2)).setCell ⟨w2.heap.size, 5, none⟩ (.int .u64 fr2)).setCell ⟨w2.heap.size, 6, none⟩ (.int .u64 nx2)).setCell ⟨w2.heap.size, 7, none⟩ (.bool br2)).setCell ⟨w2.heap.size, 8, none⟩ (.slice be2 m2 cp2)).setCell ⟨w2.heap.size, 9, none⟩ (.int .i64 mo2) := ⟨_, rfl⟩
              rw [← hG]
              have HV2 := Lib.hid (HVr.out.put HB7.out HQ.out.i (fun b e => by have := Ho2.out b e; omega) (fun b e => by have := Hp2.out b e; omega) hG)
              have hne : ∀ b, (Value.slice (some ⟨gv, ov, none⟩) M capv).ownBlock = some b → B ≤ b := fun b e => (HSR.out.lt b e).1
              have hgr : W7.grownBy G (some w2.heap.size) := by rw [hG]; exact put10_grown _ _ _ _ _ _ _ _ _ _ _ _
              have HS2 := Lib.hid (HSR.out.kept hgr (by
                cases e : (Value.slice (some ⟨gv, ov, none⟩) M capv).ownBlock with
                | none => exact .inl rfl
                | some b => exact .inr (fun h => by injection h with h; have := hne b e; omega)))
              clear c0 c1 c2 c3' c4 c5 c6 c7 c8 c9 hlc y0 y1 y2 y3 y4 y5 y6 y7 y8 y9 hly z0 z1 z2 z3 z4 z5 z6 z7 z8 z9 hG hgr hne
              go_wp2
              go_roundw
              case rel => exact ⟨j2 + 1, _, ad2, n2, cap2, be2, m2, cp2, by go_num, hjM, HO2.out, HV2.out, HS2.out⟩
              case measure => simp [intOf]; omega
            · subst hc2
              clear Hw
              go_wp2
              go_ret
              exact ⟨rfl, HB.out⟩
        · have hjI : ¬ (j2 : Int) < (M : Int) := by omega
          have hoj := HOJ.out
          rw [List.drop_eq_nil_of_le (by have := HM.out; omega)] at hoj
          obtain ⟨h1, hes⟩ := oj_none hoj (by omega)
          replace hes : es0 = [] := hes
          subst hes
          have hm0 : m0 = 0 := HV.out.i.e.1
          subst hm0
          have H1 := Lib.hid h1
          clear hoj h1 HOJ
          obtain ⟨c0, c1, c2, c3, c4, c5, c6, c7, c8, c9⟩ := box10 HV.out.h
          have hlc := (Array.getElem?_eq_some_iff.1 HV.out.h).1
          go_wp2_with fail
          refine (lease25_any wr _ _ _ _ _ _ _ HV.out.i (HT.out.under HB.out) (by have := HB.out.size; omega)).mono ?_
          rintro e w5 hP
          rw [H1.out] at hP
          obtain ⟨hb, ad1, n1, cap1, be1, m1, cp1, rfl, hq, ho, hp⟩ := hP
          clear c0 c1 c2 c3 c4 c5 c6 c7 c8 c9 hlc
          replace HV := Lib.hid (HV.out.under hb)
          replace HB := Lib.hid (HB.out.trans (hb.mono HB.out.size))
          clear hb ho hp hq
          obtain ⟨c0, c1, c2, c3, c4, c5, c6, c7, c8, c9⟩ := box10 HV.out.h
          have hlc := (Array.getElem?_eq_some_iff.1 HV.out.h).1
          go_wp2
          go_ret
          exact ⟨rfl, HB.out⟩
end Go.Proofs.YtlgbehagflnfgaaGreatDoor
