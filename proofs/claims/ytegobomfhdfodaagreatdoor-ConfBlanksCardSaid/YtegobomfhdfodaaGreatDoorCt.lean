/- CONF: MAPS AS A MODEL; THE WALKS OVER all, reach. -/
import Derived.Test.YtegobomfhdfodaaGreatDoorCr
namespace Go.Proofs.YtegobomfhdfodaaGreatDoor
open Go.RowKit
set_option maxRecDepth 100000
set_option linter.unusedVariables false
set_option linter.unusedSimpArgs false

namespace K
/-- a level: its indentation, its keys -/
abbrev L := Nat × List (T × Nd)
/-- the last key gets a map -/
def setLast (ks sub : List (T × Nd)) : List (T × Nd) := match ks.getLast? with
  | some y => ks.dropLast ++ [(y.1, .mk y.2.k y.2.s y.2.l sub)]
  | none => []
def pop (a b : L) : L := (b.1, setLast b.2 a.2)
/-- all maps ended (the innermost one comes first) -/
def allF : Nat → List L → List (T × Nd)
  | f + 1, a :: b :: r => allF f (pop a b :: r)
  | _, a :: _ => a.2
  | _, [] => []
def all (st : List L) : List (T × Nd) := allF st.length st
/-- what is right of maps -/
structure Ok (st : List L) : Prop where
  bot : ∃ r a, st = r ++ [a] ∧ a.1 = 0
  ne : ∀ b ∈ st.tail, b.2 ≠ []
  few : ∀ b ∈ st, b.2.length ≤ 256
  len : st.length ≤ 9
theorem setLast_len (ks sub : List (T × Nd)) : (setLast ks sub).length = ks.length := by
  unfold setLast
  cases h : ks.getLast? with
  | none => simp at h; subst h; rfl
  | some y =>
    have : ks ≠ [] := by rintro rfl; simp at h
    have := List.length_pos_iff.2 this
    simp; omega
theorem setLast_snoc (eb : List (T × Nd)) (y : T × Nd) (sub : List (T × Nd)) : setLast (eb ++ [y]) sub = eb ++ [(y.1, .mk y.2.k y.2.s y.2.l sub)] := by unfold setLast; simp
theorem Ok.pop {a b : L} {r : List L} (h : Ok (a :: b :: r)) : Ok (K.pop a b :: r) := by
  obtain ⟨⟨s, x, e, hx⟩, ne, few, len⟩ := h
  refine ⟨?_, fun y hy => ne y (by simp at hy ⊢; exact .inr hy), fun y hy => ?_, by simp at len ⊢; omega⟩
  · cases r with
    | nil =>
      refine ⟨[], K.pop a b, rfl, ?_⟩
      have : (a :: b :: []).getLast? = some x := by rw [e]; simp
      simp at this
      rw [← this] at hx
      exact hx
    | cons c r =>
      have : (a :: b :: c :: r).getLast? = some x := by rw [e]; simp
      have h2 : (K.pop a b :: c :: r).getLast? = some x := by simp at this ⊢; exact this
      obtain ⟨s', hs'⟩ := List.getLast?_eq_some_iff.1 h2
      exact ⟨s', x, hs', hx⟩
  · rcases List.mem_cons.1 hy with rfl | hy
    · show (setLast b.2 a.2).length ≤ 256
      rw [setLast_len]; exact few b (by simp)
    · exact few y (by simp [hy])
end K
def LV.abs (a : LV) : K.L := (a.ind, a.es.map E.kn)
/-- the maps in the variable g are st (the innermost one comes first) -/
def MR (base far g : Nat) (st : List K.L) (w : World) : Prop := ∃ v lv, MS base far g v lv w ∧ lv.reverse.map LV.abs = st
theorem MR.under {base far g : Nat} {st : List K.L} {w w' : World} (h : MR base far g st w) (hb : Below w.heap.size w w') : MR base far g st w' := by
  obtain ⟨v, lv, h, e⟩ := h
  exact ⟨v, lv, h.under hb, e⟩
theorem MR.bg {base far g : Nat} {st : List K.L} {w : World} (h : MR base far g st w) : base ≤ g ∧ g < w.heap.size ∧ base ≤ far := by
  obtain ⟨v, lv, h, e⟩ := h
  exact ⟨h.bg, h.lt, h.bf⟩
/-- the innermost one -/
theorem MR.top {base far g : Nat} {a : K.L} {r : List K.L} {w : World} (h : MR base far g (a :: r) w) :
    ∃ vb cap q es act, (w.cell? ⟨g, 0, none⟩ = some (.slice (some ⟨vb, 0, none⟩) (r.length + 1) cap) ∧ w.frozen? ⟨g, 0, none⟩ = false ∧ g < w.heap.size) ∧ vb < w.heap.size ∧ w.cell? ⟨vb, r.length * 2, none⟩ = some (.int .i64 (a.1 : Int)) ∧ w.cell? ⟨vb, r.length * 2 + 1, none⟩ = some q ∧ KR w far act q es ∧ es.map E.kn = a.2 := by
  obtain ⟨v, lv, h, e⟩ := h
  cases hl : lv.reverse with
  | nil => rw [hl] at e; cases e
  | cons x t =>
    rw [hl] at e
    injection e with e1 e2
    have hlv : lv = t.reverse ++ [x] := by rw [← List.reverse_reverse lv, hl]; simp
    have htl : t.length = r.length := by rw [← e2]; simp
    subst hlv
    obtain ⟨vb, cap, rfl, _, hvl, c0, c1⟩ := h.at (i := r.length) (a := x) (by rw [List.getElem?_append_right (by simp; omega)]; simp [htl])
    have hlen : (t.reverse ++ [x]).length = r.length + 1 := by simp; omega
    have hbx := cell_of_row w g 0 _ 65 (0, 0) h.box
    simp only [hlen] at hbx
    simp at hbx
    exact ⟨vb, cap, x.q, x.es, _, ⟨hbx, frozen_of_row w g 0 _ 65 h.box, h.lt⟩, hvl, by rw [← e1]; exact c0, c1, h.keys x (by simp), by rw [← e1]; rfl⟩
theorem begin_R (w : World) (base far g : Nat) (st : List K.L) (ind : Nat) (h : MR base far g st w) (hn : st.length ≤ 1000) (hb : base ≤ w.heap.size) :
    Calls Tryz.prog 84 #[.pointer (some ⟨g, 0, none⟩), .int .i64 (ind : Int)] w fun e w' => e = .returned (.tuple #[]) ∧ MR base far g ((ind, []) :: st) w' ∧ Bo base w w' := by
  obtain ⟨v, lv, h, e⟩ := h
  refine (begin_any w base far g v lv ind h (by rw [← e] at hn; simpa using hn) hb).mono ?_
  rintro en w' ⟨rfl, v', h', hb'⟩
  refine ⟨rfl, ⟨v', _, h', ?_⟩, hb'⟩
  rw [List.reverse_append, List.map_append, e]
  rfl
theorem end_R (w : World) (base far g : Nat) (a b : K.L) (r : List K.L) (h : MR base far g (a :: b :: r) w) (hne : b.2 ≠ []) (hn : r.length ≤ 1000) (ha : a.2.length ≤ 1000) (hbl : b.2.length ≤ 1000) (hb : base ≤ w.heap.size) :
    Calls Tryz.prog 59 #[.pointer (some ⟨g, 0, none⟩)] w fun e w' => e = .returned (.tuple #[]) ∧ MR base far g (K.pop a b :: r) w' ∧ Bo base w w' := by
  obtain ⟨v, lv, h, e⟩ := h
  cases hl : lv.reverse with
  | nil => rw [hl] at e; cases e
  | cons x t =>
    cases t with
    | nil => rw [hl] at e; injection e with _ e; cases e
    | cons y t =>
      rw [hl] at e
      injection e with e1 e2
      injection e2 with e2 e3
      have hlv : lv = t.reverse ++ [y, x] := by rw [← List.reverse_reverse lv, hl]; simp
      subst hlv
      have hy2 : y.es.map E.kn = b.2 := by rw [← e2]; rfl
      have hx2 : x.es.map E.kn = a.2 := by rw [← e1]; rfl
      have hyn : y.es ≠ [] := by intro h0; rw [h0] at hy2; exact hne hy2.symm
      obtain ⟨eb, ee, hyes⟩ : ∃ eb ee, y.es = eb ++ [ee] := by
        obtain h0 | ⟨eb, ee, h0⟩ := List.eq_nil_or_concat y.es
        · exact absurd h0 hyn
        · exact ⟨eb, ee, by simpa using h0⟩
      have htl : t.length = r.length := by rw [← e3]; simp
      have hbe : eb.length + 1 = b.2.length := by rw [← hy2, hyes]; simp
      have hxl : x.es.length = a.2.length := by rw [← hx2]; simp
      refine (end_any w base far g v t.reverse y x eb ee h (by simp; omega) hyes (by omega) (by omega) hb).mono ?_
      rintro en w' ⟨rfl, v', h', hb'⟩
      refine ⟨rfl, ⟨v', _, h', ?_⟩, hb'⟩
      rw [List.reverse_append, List.map_append, List.reverse_reverse, e3]
      simp only [List.reverse_cons, List.reverse_nil, List.nil_append, List.map_cons, List.map_nil, List.cons_append]
      congr 1
      unfold LV.abs LV.with K.pop
      rw [← hy2, hyes, List.map_append, List.map_append]
      simp only [List.map_cons, List.map_nil]
      rw [K.setLast_snoc, ← e2, ← hx2]
      rfl
theorem lastR {w : World} {g : Nat} {a : K.L} {r : List K.L} (vb cap : Nat) (hn : r.length ≤ 1000) : ∀ W : World, Calls Tryz.prog 52 #[.slice (some ⟨vb, 0, none⟩) (r.length + 1) cap] W fun e w' => e = .returned (.pointer (some ⟨vb, r.length * 2, none⟩)) ∧ W = w' := fun W => by
  have := last_any W vb (r.length + 1) cap (by omega) (by omega)
  simpa using this
set_option maxHeartbeats 4000000 in
theorem all_any (w : World) (base far g : Nat) (st : List K.L) (h : MR base far g st w) (hok : K.Ok st) (hb : base ≤ w.heap.size) :
    Calls Tryz.prog 33 #[.pointer (some ⟨g, 0, none⟩)] w fun e w' => ∃ q, e = .returned (.agg #[.int .u8 0, .string ⟨#[]⟩, .slice none 0 0, q]) ∧ RepK (Far w' base []) w' q (K.all st) ∧ Bo base w w' := by
  obtain ⟨X, hX⟩ : ∃ X, X = w.alloc (.cells #[.int .u8 0, .string ⟨#[]⟩, .slice none 0 0, .slice none 0 0] 32) := ⟨_, rfl⟩
  have hB : Below w.heap.size w X := by rw [hX]; exact (Below.refl _ w).alloc (Nat.le_refl _) _
  have hx : X.heap[w.heap.size]? = some (.cells #[.int .u8 0, .string ⟨#[]⟩, .slice none 0 0, .slice none 0 0] 32 (0, 0)) := by rw [hX]; exact blk_new w _
  have hXs : X.heap.size = w.heap.size + 1 := by rw [hX]; simp
  obtain ⟨n, hn⟩ : ∃ n, n = w.heap.size := ⟨_, rfl⟩
  rw [← hn] at hx hXs
  obtain ⟨R, hR⟩ : ∃ R, K.all st = R := ⟨_, rfl⟩
  rw [hR]
  have H0 := Lib.hid (show MR base far g st X ∧ K.Ok st ∧ K.allF st.length st = R ∧ Bo base w X from ⟨h.under hB, hok, hR, .of_below hB hb⟩)
  have HX := Lib.hid (And.intro hX hn)
  have HS := Lib.hid (And.intro hx hXs)
  have Hb := Lib.hid hb
  have HO := Lib.hid (show Oth X X from .of_below (Below.refl _ _))
  clear hX hn hB hx hXs h hok hR hb
  go_enter Tryz.func33, Tryz.ntmps33
  go_upto_region 1 with (fail)
  rw [← HX.out.1, ← HX.out.2]
  go_wp2
  go_loopg [3, 4, 5, 6, 7, 8, 9] st.length (fun gf v3 v4 v5 v6 v7 v8 v9 wx => ∃ st', MR base far g st' wx ∧ K.Ok st' ∧ K.allF gf st' = R ∧ st'.length ≤ gf ∧ Bo base w wx ∧ Oth X wx)
  case atStart => exact ⟨st, H0.out.1, H0.out.2.1, H0.out.2.2.1, Nat.le_refl _, H0.out.2.2.2, HO.out⟩
  case round =>
    obtain ⟨st', hm, hok, hall, hfu, hbo, hoth⟩ := hrel
    have HM := Lib.hid hm
    have HOK := Lib.hid hok
    have HBO := Lib.hid hbo
    have HOT := Lib.hid hoth
    have HALL := Lib.hid hall
    have hbw : base ≤ wr.heap.size := Nat.le_trans Hb.out hbo.low.size
    have hnb := hoth.2 n _ HS.out.1 (fun cs t f e => by injection e with e1 e2 e3; subst e2; decide)
    cases st' with
    | nil => obtain ⟨r, x, e, _⟩ := hok.bot; exact absurd e (by simp)
    | cons a r =>
      obtain ⟨vb, cap, q, es, act, ⟨c0, f0, hlg⟩, hvl, c1, c2, hkr, hes⟩ := hm.top
      have hrl : r.length ≤ 9 := by have := hok.len; simp at this; omega
      cases r with
      | nil =>
        have hR' : R = a.2 := by
          rw [← HALL.out]
          cases gk with
          | zero => rfl
          | succ k => rfl
        obtain ⟨b4, f4⟩ := box4 hnb
        obtain ⟨z0, z1, z2, z3⟩ := b4
        obtain ⟨y0, y1, y2, y3⟩ := f4
        have hnl := blk_lt hnb
        obtain ⟨adq, capq, rfl, _⟩ := row_form hkr.row
        have hla := fun W => lastR (w := wr) (g := g) (a := a) (r := []) vb cap (by simp) W
        have HKR := Lib.hid hkr
        have HES := Lib.hid hes
        have HNB := Lib.hid hnb
        clear hkr hes hnb hm hok hall hbo hoth
        obtain ⟨m, hm⟩ : ∃ m, es.length = m := ⟨_, rfl⟩
        rw [hm] at c2
        simp only [List.length_nil, Nat.zero_add, Nat.zero_mul] at c0 c1 c2 hla
        have Hm := Lib.hid hm
        clear hm
        go_wp2_with (go_at_call 52; refine (hla _).mono ?_; rintro e w1 ⟨rfl, rfl⟩)
        obtain ⟨G, hG⟩ : ∃ G, G = (((wr.setCell ⟨n, 0, none⟩ (.int .u8 0)).setCell ⟨n, 1, none⟩ (.string ⟨#[]⟩)).setCell ⟨n, 2, none⟩ (.slice none 0 0)).setCell ⟨n, 3, none⟩ (.slice adq m capq) := ⟨_, rfl⟩
        rw [← hG]
        have hgg : wr.grownBy G (some n) := by rw [hG]; exact (((set_grown1 wr n 0 _).trans (set_grown1 _ n 1 _)).trans (set_grown1 _ n 2 _)).trans (set_grown1 _ n 3 _)
        have hk : G.heap[n]? = some (.cells #[.int .u8 0, .string ⟨#[]⟩, .slice none 0 0, .slice adq m capq] 32 (0, 0)) := by
          rw [hG]
          exact heap_setCell_same _ n 3 _ 32 _ (heap_setCell_same _ n 2 _ 32 _ (heap_setCell_same _ n 1 _ 32 _ (heap_setCell_same _ n 0 _ 32 _ HNB.out)))
        obtain ⟨⟨r0, r1, r2, r3⟩, _⟩ := box4 hk
        refine bodyPost_ret (v := .agg #[.int .u8 0, .string ⟨#[]⟩, .slice none 0 0, .slice adq m capq]) (by simp [results, Tryz.results33, go_sem, r0, r1, r2, r3]) rfl ?_
        have hks : SameX none wr G := SameX.other hgg HNB.out (by decide)
        refine ⟨_, rfl, ?_, ?_⟩
        · rw [hR', ← HES.out]
          have := (HKR.out.kept hks (by cases h : (Value.slice adq es.length capq).ownBlock; exact .inl rfl; exact .inr (fun e => nomatch e)) (.inl rfl) (same_act _ _)).data (act' := []) (fun _ _ _ h => absurd h (by simp)) (fun _ h => absurd h (by simp))
          rw [Hm.out] at this
          exact this.mono fun b hb _ => ⟨Nat.le_trans HM.out.bg.2.2 hb.1, hb.2⟩
        · have h1 := HBO.out.low
          have h2 : base ≤ n := by have := HX.out.2; have := Hb.out; omega
          refine ⟨h1.trans (below_of_grown hgg (Nat.le_trans Hb.out h1.size) (fun k hk => by injection hk with hk; subst hk; exact h2)), Nat.le_trans HBO.out.oth.1 hgg.size, fun b o hbo ho => ?_⟩
          have h3 := HBO.out.oth.2 b o hbo ho
          exact (hgg.block b (blk_lt h3) (fun e => by injection e with e; have := HX.out.2; have := blk_lt hbo; omega)).trans h3
      | cons b r =>
        obtain ⟨k, rfl⟩ : ∃ k, gk = k + 1 := ⟨gk - 1, by simp at hfu; omega⟩
        have hen := end_R wr base far g a b r hm (hok.ne b (by simp)) (by simp at hrl; omega) (by have := hok.few a (by simp); omega) (by have := hok.few b (by simp); omega) hbw
        have HEN := Lib.hid hen
        have hpos : (1 : Int) < ((r.length + 1 + 1 : Nat) : Int) := by omega
        simp only [List.length_cons] at c0 c1 c2
        clear hen hkr hes hnb hm hok hall hbo hoth
        go_wp2_with fail
        refine (HEN.out).mono ?_
        rintro e w1 ⟨rfl, hm1, hb1⟩
        go_wp2
        go_roundg k
        case measure => omega
        case rel => exact ⟨K.pop a b :: r, hm1, HOK.out.pop, HALL.out, by simp at hfu ⊢; omega, HBO.out.trans hb1, HOT.out.trans hb1.oth⟩
end Go.Proofs.YtegobomfhdfodaaGreatDoor
