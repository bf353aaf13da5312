/- CONF: THE LINES OF A TEXT: THE ITERATORS OF strings.SplitSeq AND lines. -/
import Derived.Test.YtegobomfhdfodaaGreatDoorCla
import Derived.Sort.LoopGhostIn
namespace Go.Proofs.YtegobomfhdfodaaGreatDoor
open Go.RowKit Go.Shelf
attribute [local go_sem] Oper.semAt_some
set_option maxRecDepth 100000
set_option linter.unusedVariables false
set_option linter.unusedSimpArgs false

namespace K
/-- what stands between LFs -/
def pieces : T → List T
  | [] => [[]]
  | b :: r => if b = 10 then [] :: pieces r else match pieces r with
    | p :: ps => (b :: p) :: ps
    | [] => [[b]]
theorem pieces_ne (l : T) : pieces l ≠ [] := by
  cases l with
  | nil => simp [pieces]
  | cons b r =>
    unfold pieces
    split
    · simp
    · split <;> simp
theorem pieces_cut : ∀ (a r : T), (10 : UInt8) ∉ a → pieces (a ++ 10 :: r) = a :: pieces r
  | [], r, _ => by simp [pieces]
  | b :: a, r, h => by
    have hb : ¬ b = 10 := fun e => h (by simp [e])
    have := pieces_cut a r (fun e => h (by simp [e]))
    show (if b = 10 then [] :: pieces (a ++ 10 :: r) else match pieces (a ++ 10 :: r) with | p :: ps => (b :: p) :: ps | [] => [[b]]) = _
    rw [if_neg hb, this]
theorem pieces_last : ∀ (a : T), (10 : UInt8) ∉ a → pieces a = [a]
  | [], _ => by simp [pieces]
  | b :: a, h => by
    have hb : ¬ b = 10 := fun e => h (by simp [e])
    have := pieces_last a (fun e => h (by simp [e]))
    show (if b = 10 then [] :: pieces a else match pieces a with | p :: ps => (b :: p) :: ps | [] => [[b]]) = _
    rw [if_neg hb, this]
theorem pieces_len : ∀ (l : T), (pieces l).length ≤ l.length + 1
  | [] => by simp [pieces]
  | b :: r => by
    have := pieces_len r
    show (if b = 10 then [] :: pieces r else match pieces r with | p :: ps => (b :: p) :: ps | [] => [[b]]).length ≤ _
    split
    · simp; omega
    · cases h : pieces r with
      | nil => simp
      | cons p ps => rw [h] at this; simp at this ⊢; omega
theorem pieces_mem : ∀ (l : T), ∀ p ∈ pieces l, p.length ≤ l.length
  | [], p, h => by simp [pieces] at h; subst h; simp
  | b :: r, p, h => by
    have ih := pieces_mem r
    have h' : p ∈ (if b = 10 then [] :: pieces r else match pieces r with | p :: ps => (b :: p) :: ps | [] => [[b]]) := h
    split at h'
    · rcases List.mem_cons.1 h' with rfl | h'
      · simp
      · have := ih p h'; simp; omega
    · cases hp : pieces r with
      | nil => rw [hp] at h'; simp at h'; subst h'; simp
      | cons q ps =>
        rw [hp] at h'
        rcases List.mem_cons.1 h' with rfl | h'
        · have := ih q (by rw [hp]; simp); simp; omega
        · have := ih p (by rw [hp]; simp [h']); simp; omega
/-- the lines that say something, and their numbers -/
def numbered : Nat → List T → List (Nat × T)
  | _, [] => []
  | n, p :: ps => if says p then (n + 1, p) :: numbered (n + 1) ps else numbered (n + 1) ps
theorem numbered_snoc : ∀ (n : Nat) (l : List T) (p : T), numbered n (l ++ [p]) = numbered n l ++ (if says p then [(n + l.length + 1, p)] else [])
  | n, [], p => by simp [numbered]
  | n, q :: l, p => by
    have := numbered_snoc (n + 1) l p
    simp only [List.cons_append, numbered]
    rw [this]
    split
    · simp; split <;> simp; omega
    · simp; split <;> simp; omega
theorem numbered_app : ∀ (n : Nat) (a b : List T), numbered n (a ++ b) = numbered n a ++ numbered (n + a.length) b
  | n, [], b => by simp [numbered]
  | n, q :: a, b => by
    have := numbered_app (n + 1) a b
    simp only [List.cons_append, numbered]
    rw [this, show n + (q :: a).length = n + 1 + a.length from by simp; omega]
    split <;> simp
theorem numbered_len : ∀ (n : Nat) (l : List T), (numbered n l).length ≤ l.length
  | _, [] => by simp [numbered]
  | n, p :: ps => by
    have := numbered_len (n + 1) ps
    unfold numbered
    split <;> simp <;> omega
def linesOf (s : T) : List (Nat × T) := numbered 0 (pieces s)
/-- where the LF is -/
theorem idx_cut {l : T} {i : Nat} (h : Lib.indexByte l 10 = (i : Int)) : i < l.length ∧ (10 : UInt8) ∉ l.take i ∧ l = l.take i ++ 10 :: l.drop (i + 1) := by
  obtain ⟨h1, h2⟩ := Lib.indexByte_some h
  obtain ⟨hi, h3⟩ := List.getElem?_eq_some_iff.1 h1
  refine ⟨hi, fun hm => ?_, ?_⟩
  · obtain ⟨k, hk, hke⟩ := List.mem_iff_getElem.1 hm
    have hk' : k < i := by simp at hk; omega
    refine h2 k hk' ?_
    rw [List.getElem?_eq_getElem (by omega)]
    simpa using hke
  · conv => lhs; rw [← List.take_append_drop i l]
    congr 1
    rw [List.drop_eq_getElem_cons hi, h3]
theorem idx_none {l : T} (h : Lib.indexByte l 10 < 0) : (10 : UInt8) ∉ l := by
  have h1 := Lib.indexByte_ge l 10
  have h2 := Lib.indexByte_none (l := l) (c := 10) (by omega)
  intro hm
  obtain ⟨k, hk, hke⟩ := List.mem_iff_getElem.1 hm
  exact h2 k (by rw [List.getElem?_eq_getElem hk, hke])
end K
/-- these blocks of cells stay -/
def Kpn (b c : Nat) (W W' : World) : Prop := W.heap.size ≤ W'.heap.size ∧ ∀ k cs t f, b ≤ k → k < b + c → (t = 3 ∨ t = 9 ∨ t = 88) → W.heap[k]? = some (.cells cs t f) → W'.heap[k]? = some (.cells cs t f)
theorem Kpn.trans {b c : Nat} {A B C : World} (h : Kpn b c A B) (k : Kpn b c B C) : Kpn b c A C := ⟨Nat.le_trans h.1 k.1, fun x cs t f h1 h2 ht hx => k.2 x cs t f h1 h2 ht (h.2 x cs t f h1 h2 ht hx)⟩
theorem Kpn.put (b c : Nat) (W : World) (l : Nat) (o o' : Obj) (h : W.heap[l]? = some o) (hc : o.isCells = false) : Kpn b c W (W.putObj l o') :=
  ⟨by simp, fun k cs t f _ _ _ hb => (World.putObj_heap_other (fun e => by subst e; rw [hb] at h; cases h; cases hc)).trans hb⟩
theorem Kpn.refl (b c : Nat) (W : World) : Kpn b c W W := ⟨Nat.le_refl _, fun _ _ _ _ _ _ _ h => h⟩
theorem Kpn.of_below {b c : Nat} {W W' : World} (h : Below W.heap.size W W') : Kpn b c W W' := ⟨h.size, fun k cs t f _ _ _ hb => blk_under hb h⟩
theorem Kpn.sub {b c b' c' : Nat} {W W' : World} (h : Kpn b c W W') (h1 : b ≤ b') (h2 : b' + c' ≤ b + c) : Kpn b' c' W W' := ⟨h.1, fun k cs t f h3 h4 ht hb => h.2 k cs t f (by omega) (by omega) ht hb⟩
theorem lf_any (w : World) (s : K.T) : Calls Tryz.prog 109 #[S s, .string ⟨#[10]⟩] w fun e w' => e = .returned (.int .i64 (Lib.indexByte s 10)) ∧ w = w' :=
  (Tryz.strings_Index_one ⟨s.toArray⟩ 10 w).mono fun e w' h => ⟨h.1, h.2.symm⟩
theorem roundIn_any {n m : Nat} {P : Program} {l l' : Nat} {fn : FuncId} {tmps : Array Value} {assign body : Code} {w : World} {R : Ending → World → Prop} (h : RoundIn Fence.wide n P l fn tmps assign body w R) : RoundIn (Fence.wide.inRound l') m P l fn tmps assign body w R := ⟨trivial, fun c cs _ => h.2 c cs (room_wide _)⟩
theorem roundIn_wide {n m : Nat} {P : Program} {l : Nat} {fn : FuncId} {tmps : Array Value} {assign body : Code} {w : World} {R : Ending → World → Prop} (h : RoundIn Fence.wide n P l fn tmps assign body w R) : RoundIn Fence.wide m P l fn tmps assign body w R := ⟨trivial, fun c cs _ => h.2 c cs (room_wide _)⟩
theorem cell1 {w : World} {g : Nat} {u : Value} {t : TypeId} (h : w.heap[g]? = some (.cells #[u] t (0, 0))) : w.cell? ⟨g, 0, none⟩ = some u := cell_of_row w g 0 _ t (0, 0) h
theorem free1 {w : World} {g : Nat} {u : Value} {t : TypeId} (h : w.heap[g]? = some (.cells #[u] t (0, 0))) : w.frozen? ⟨g, 0, none⟩ = false := frozen_of_row w g 0 _ t h
set_option maxHeartbeats 4000000 in
/-- the iterator over the pieces between LFs -/
theorem split_it (l b N : Nat) (s : K.T) (hl : s.length ≤ 100000) (W : World) (hs : W.heap[b]? = some (.cells #[S s] 9 (0, 0))) (hp : W.heap[b + 1]? = some (.cells #[.string ⟨#[10]⟩] 9 (0, 0))) (hn : W.heap[b + 1 + 1]? = some (.cells #[.int .i64 0] 3 (0, 0)))
    (J Jx : List K.T → World → Prop) (hJ : AbX W.heap.size (fun r => r = b) J) (hN : (K.pieces s).length ≤ N) (hY : Round Fence.wide 3 Tryz.prog l (fun x : K.T => #[S x]) (fun x => x.length ≤ 100000) (Kpn b 3) N 0 J Jx) (h0 : J [] W) :
    CallsIn Fence.wide 4 Tryz.prog 110 #[.func (.yield l) #[] #[], .pointer (some ⟨b + 1, 0, none⟩), .pointer (some ⟨b, 0, none⟩), .pointer (some ⟨b + 1 + 1, 0, none⟩)] W (SeqEnd (fun xs => xs = K.pieces s) (fun pre => pre <+: K.pieces s) J Jx) := by
  refine callsIn_of_wp Tryz.func110 rfl trivial ?_ rfl
  simp only [Tryz.ntmps110, List.size_toArray, List.length_cons, List.length_nil, Nat.reduceAdd, Nat.reduceSub, Array.replicate_succ, Array.replicate_zero, List.push_toArray, List.append_toArray, List.nil_append, List.cons_append]
  obtain ⟨sb, hsb⟩ : ∃ sb, K.pieces s = sb := ⟨_, rfl⟩
  rw [hsb] at hN ⊢
  have c1 := cell1 hp
  have hlp := blk_lt hp
  have H := Lib.hid (show W.heap[b]? = some (.cells #[S s] 9 (0, 0)) ∧ W.heap[b + 1]? = some (.cells #[.string ⟨#[10]⟩] 9 (0, 0)) ∧ W.heap[b + 1 + 1]? = some (.cells #[.int .i64 0] 3 (0, 0)) from ⟨hs, hp, hn⟩)
  have HSB := Lib.hid hsb
  have HL := Lib.hid hl
  clear hs hp hn hsb hl
  gi_wp2
  gi_loopg [7] (s.length + 1) (fun gf v wr => ∃ (pre : List K.T) (cur : K.T), sb = pre ++ K.pieces cur ∧ cur.length < gf ∧ cur.length ≤ 100000 ∧ J pre wr ∧ W.heap.size ≤ wr.heap.size ∧ wr.heap[b]? = some (.cells #[S cur] 9 (0, 0)) ∧ wr.heap[b + 1]? = some (.cells #[.string ⟨#[10]⟩] 9 (0, 0)) ∧ wr.heap[b + 1 + 1]? = some (.cells #[.int .i64 0] 3 (0, 0)))
  case atStart => exact ⟨[], s, HSB.out.symm, by omega, HL.out, h0, Nat.le_refl _, H.out⟩
  case round =>
    obtain ⟨pre, cur, hsb, hgf, hcl, hJr, hsz, h1, h2, h3⟩ := hrel
    clear c1 hlp
    obtain ⟨k, rfl⟩ : ∃ k, gk = k + 1 := ⟨gk - 1, by omega⟩
    have c0 := cell1 h1
    have f0 := free1 h1
    have c1 := cell1 h2
    have c2 := cell1 h3
    have l0 := blk_lt h1
    have l1 := blk_lt h2
    have l2 := blk_lt h3
    have hix := lf_any wr cur
    have s1 := S_size cur
    by_cases hi : Lib.indexByte cur 10 < 0
    · have hlast := K.pieces_last cur (K.idx_none hi)
      rw [hlast] at hsb
      have hlen : pre.length < N := by rw [hsb] at hN; simp at hN; omega
      obtain ⟨fn, tmps, assign, body, hy, hR⟩ := hY pre cur wr hcl (Nat.zero_le _) hJr hlen
      obtain ⟨z, hz⟩ : ∃ z, Lib.indexByte cur 10 = z := ⟨_, rfl⟩
      rw [hz] at hi hix
      have HSB2 := Lib.hid hsb
      clear hsb hlast hz h1 h2 h3 hN
      gi_wp2_with fail
      refine ⟨trivial, ?_⟩
      refine (callsIn_wide.2 hix).mono ?_
      rintro e w6 ⟨rfl, rfl⟩
      gi_wp2
      refine (roundIn_wide hR).mono ?_
      clear hR hy
      rintro e W3 (⟨rfl, hJ3, _⟩ | ⟨rfl, hJx3, _⟩)
      · gi_wp2
        go_end0
        exact ⟨⟨_, rfl⟩, .inl ⟨_, HSB2.out.symm, hJ3⟩⟩
      · gi_wp2
        go_end0
        exact ⟨⟨_, rfl⟩, .inr ⟨_, ⟨[], by rw [HSB2.out]; simp⟩, hJx3⟩⟩
    · obtain ⟨i, hii⟩ : ∃ i : Nat, Lib.indexByte cur 10 = (i : Int) := ⟨(Lib.indexByte cur 10).toNat, by omega⟩
      rw [hii] at hi hix
      obtain ⟨hic, hnl, hcut⟩ := K.idx_cut hii
      have hpc : K.pieces cur = cur.take i :: K.pieces (cur.drop (i + 1)) := by
        conv => lhs; rw [hcut]
        exact K.pieces_cut _ _ hnl
      rw [hpc] at hsb
      have hlen : pre.length < N := by rw [hsb] at hN; simp at hN; omega
      obtain ⟨fn, tmps, assign, body, hy, hR⟩ := hY pre (cur.take i) wr (by simp; omega) (Nat.zero_le _) hJr hlen
      have hst : ∀ W, (Instr.slice 9 (S cur) none (some (.int .i64 (i : Int))) none).run Tryz.prog W = .ok (S (cur.take i)) W := slice_to cur .i64 i (by omega)
      have hsf : ∀ W, (Instr.slice 9 (S cur) (some (.int .i64 ((i : Int) + 1))) none none).run Tryz.prog W = .ok (S (cur.drop (i + 1))) W := slice_from cur (i + 1) (by omega)
      have hdl : (cur.drop (i + 1)).length < k := by simp; omega
      have hdl2 : (cur.drop (i + 1)).length ≤ 100000 := by simp; omega
      obtain ⟨hd, hhd⟩ : ∃ x, cur.take i = x := ⟨_, rfl⟩
      obtain ⟨tl, htl⟩ : ∃ x, cur.drop (i + 1) = x := ⟨_, rfl⟩
      rw [hhd] at hR hst hsb hy
      rw [htl] at hsf hsb hdl hdl2
      have hi9 : (i : Int) ≤ 100000 := by omega
      have HSB2 := Lib.hid hsb
      have H3 := Lib.hid (And.intro h1 (And.intro h2 h3))
      clear hsb hpc hcut hnl hii h1 h2 h3 hhd htl hJr hN hic
      gi_wp2_with fail
      refine ⟨trivial, ?_⟩
      refine (callsIn_wide.2 hix).mono ?_
      rintro e w6 ⟨rfl, rfl⟩
      gi_wp2
      refine (roundIn_wide hR).mono ?_
      clear hR hy
      rintro e W3 (⟨rfl, hJ3, hk3⟩ | ⟨rfl, hJx3, _⟩)
      · clear c0 c1 c2 f0 l0 l1 l2
        have g1 := hk3.2 b _ _ _ (Nat.le_refl _) (by omega) (.inr (.inl rfl)) H3.out.1
        have g2 := hk3.2 (b + 1) _ _ _ (by omega) (by omega) (.inr (.inl rfl)) H3.out.2.1
        have g3 := hk3.2 (b + 1 + 1) _ _ _ (by omega) (by omega) (.inl rfl) H3.out.2.2
        have c0 := cell1 g1
        have f0 := free1 g1
        have c1 := cell1 g2
        have l0 := blk_lt g1
        have l1 := blk_lt g2
        have hJ4 := hJ (pre ++ [hd]) W3 (W3.setCell ⟨b, 0, none⟩ (S tl)) (some b) hJ3 (set_grown1 W3 b 0 _) (fun r e => by
          injection e with e; subst e; exact .inl ⟨rfl, _, _, g1, .inr rfl⟩)
        have HN := Lib.hid (show J (pre ++ [hd]) (W3.setCell ⟨b, 0, none⟩ (S tl)) ∧ W.heap.size ≤ (W3.setCell ⟨b, 0, none⟩ (S tl)).heap.size ∧ (W3.setCell ⟨b, 0, none⟩ (S tl)).heap[b]? = some (.cells #[S tl] 9 (0, 0)) ∧ (W3.setCell ⟨b, 0, none⟩ (S tl)).heap[b + 1]? = some (.cells #[.string ⟨#[10]⟩] 9 (0, 0)) ∧ (W3.setCell ⟨b, 0, none⟩ (S tl)).heap[b + 1 + 1]? = some (.cells #[.int .i64 0] 3 (0, 0)) from
          ⟨hJ4, by simp [World.setCell]; exact Nat.le_trans hsz hk3.1, heap_setCell_same W3 b 0 _ 9 _ g1, (Below.heap_setCell W3 ⟨b, 0, none⟩ _ (b + 1) (by show b + 1 ≠ b; omega)).trans g2, (Below.heap_setCell W3 ⟨b, 0, none⟩ _ (b + 1 + 1) (by show b + 1 + 1 ≠ b; omega)).trans g3⟩)
        clear hJ3 hk3 g1 g2 g3 hJ4
        gi_wp2
        gi_roundg k
        case measure => omega
        case rel => exact ⟨pre ++ [hd], tl, by rw [HSB2.out]; simp, hdl, hdl2, HN.out⟩
      · gi_wp2
        go_end0
        exact ⟨⟨_, rfl⟩, .inr ⟨_, ⟨K.pieces tl, by rw [HSB2.out]; simp⟩, hJx3⟩⟩
end Go.Proofs.YtegobomfhdfodaaGreatDoor
