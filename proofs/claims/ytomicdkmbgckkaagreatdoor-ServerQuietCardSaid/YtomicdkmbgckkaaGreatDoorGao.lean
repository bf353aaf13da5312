/- HTTP: OF A REQUEST, EACH BEGINNING; WHAT COMES BEHIND (mathematics). -/
import Derived.Test.YtomicdkmbgckkaaGreatDoorGan
namespace Go.Proofs.YtomicdkmbgckkaaGreatDoor
set_option linter.unusedVariables false
set_option linter.unusedSimpArgs false
set_option maxRecDepth 100000
namespace H
theorem GoodAt.congr {α : Type} {f g : T → R α} (h : ∀ l, f l = g l) {l : T} (hg : GoodAt g l) : GoodAt f l := by
  have : f = g := funext h
  rw [this]; exact hg
/- the heads -/
def headsW (f : Fr) (l : T) : R Fr := headsF (l.length + 1) f l
theorem headsF_fuel : ∀ (n m : Nat) (f : Fr) (l : T), l.length < n → l.length < m → headsF n f l = headsF m f l
  | 0, _, _, _, h, _ => absurd h (by omega)
  | _ + 1, 0, _, _, _, h => absurd h (by omega)
  | n + 1, m + 1, f, l, h1, h2 => by
    simp only [headsF]
    cases hl : line l with
    | error e => rfl
    | ok p =>
      obtain ⟨t, r⟩ := p
      have := (line_len hl).2.1
      simp only
      split
      · rfl
      · split
        · rfl
        · split
          · rfl
          · exact headsF_fuel n m _ r (by omega) (by omega)
def headsK (f : Fr) (t r : T) : R Fr :=
  if t = [] then .ok (f, r)
  else match head t with
    | .error e => .error e
    | .ok h => match addHead f h with
      | .error e => .error e
      | .ok f' => headsW f' r
theorem headsW_eq (f : Fr) (l : T) : (∀ e, line l = .error e → headsW f l = .error e) ∧ ∀ t r, line l = .ok (t, r) → headsW f l = headsK f t r := by
  refine ⟨fun e he => by unfold headsW; simp only [headsF, he], fun t r hl => ?_⟩
  have := (line_len hl).2.1
  unfold headsW headsK
  simp only [headsF, hl]
  split
  · rfl
  · cases hh : head t with
    | error e => rfl
    | ok d =>
      simp only
      cases ha : addHead f d with
      | error e => rfl
      | ok f' => exact headsF_fuel _ _ _ r (by omega) (by omega)
theorem good_heads : ∀ (N : Nat) (f : Fr) (l : T), l.length < N → GoodAt (headsW f) l
  | 0, _, _, h => absurd h (by omega)
  | N + 1, f, l, h => by
    refine good_bind (headsW_eq f) good_line l fun t r hl => ?_
    have hr := (line_len hl).2.1
    by_cases ht : t = []
    · exact GoodAt.congr (g := fun l => .ok (f, l)) (fun l => by unfold headsK; rw [if_pos ht]) (good_pure f r)
    · cases hh : head t with
      | error e => exact GoodAt.congr (g := fun l => .error e) (fun l => by unfold headsK; rw [if_neg ht, hh]) (good_error e r)
      | ok d =>
        cases ha : addHead f d with
        | error e => exact GoodAt.congr (g := fun l => .error e) (fun l => by unfold headsK; rw [if_neg ht, hh]; simp only [ha]) (good_error e r)
        | ok f' => exact GoodAt.congr (g := headsW f') (fun l => by unfold headsK; rw [if_neg ht, hh]; simp only [ha]) (good_heads N f' r (by omega))
theorem good_headsR (l : T) : GoodAt heads l := good_heads (l.length + 1) ⟨[], [], []⟩ l (by omega)
/- the chunks -/
def sizeK (t r : T) : R Nat := match whole16 (Lib.cut t [59]).1 with | .error e => .error e | .ok n => .ok (n, r)
theorem good_size (l : T) : GoodAt chunkSize l := by
  refine good_bind (g := sizeK) (fun l => ⟨fun e he => by unfold chunkSize; simp only [he], fun t r hl => by unfold chunkSize sizeK; simp only [hl]; cases whole16 (Lib.cut t [59]).1 <;> rfl⟩) good_line l fun t r hl => ?_
  exact GoodAt.congr (g := fun l => (match whole16 (Lib.cut t [59]).1 with | .error e => .error e | .ok a => .ok (a, l) : R Nat)) (fun l => by unfold sizeK; cases whole16 (Lib.cut t [59]).1 <;> rfl) (by cases whole16 (Lib.cut t [59]).1 with | error e => exact good_error e r | ok n => exact good_pure n r)
def chunksW (most : Int) (acc l : T) : R T := chunksF most (l.length + 1) acc l
theorem chunksF_fuel (most : Int) : ∀ (n m : Nat) (acc l : T), l.length < n → l.length < m → chunksF most n acc l = chunksF most m acc l
  | 0, _, _, _, h, _ => absurd h (by omega)
  | _ + 1, 0, _, _, _, h => absurd h (by omega)
  | n + 1, m + 1, acc, l, h1, h2 => by
    simp only [chunksF]
    cases hl : chunkSize l with
    | error e => rfl
    | ok p =>
      obtain ⟨t, r⟩ := p
      have := chunkSize_len hl
      simp only
      split
      · rfl
      · cases hp : part most t acc.length r with
        | error e => rfl
        | ok q =>
          obtain ⟨p, r'⟩ := q
          have := part_len hp
          simp only
          cases he : endR r' with
          | error e => rfl
          | ok q =>
            obtain ⟨u, r''⟩ := q
            have := end_len he
            exact chunksF_fuel most n m _ r'' (by omega) (by omega)
def chunksE (most : Int) (acc p l : T) : R T := match endR l with | .error e => .error e | .ok (_, r) => chunksW most (acc ++ p) r
def chunksP (most : Int) (acc : T) (n : Nat) (l : T) : R T := match part most n acc.length l with | .error e => .error e | .ok (p, r) => chunksE most acc p r
def chunksH (acc l : T) : R T := match heads l with | .error e => .error e | .ok (_, r) => .ok (acc, r)
def chunksK (most : Int) (acc : T) (n : Nat) (l : T) : R T := if n = 0 then chunksH acc l else chunksP most acc n l
theorem chunksW_eq (most : Int) (acc l : T) : (∀ e, chunkSize l = .error e → chunksW most acc l = .error e) ∧ ∀ n r, chunkSize l = .ok (n, r) → chunksW most acc l = chunksK most acc n r := by
  refine ⟨fun e he => by unfold chunksW; simp only [chunksF, he], fun t r hl => ?_⟩
  have := chunkSize_len hl
  unfold chunksW chunksK
  simp only [chunksF, hl]
  split
  · unfold chunksH
    cases heads r <;> rfl
  · unfold chunksP
    cases hp : part most t acc.length r with
    | error e => rfl
    | ok q =>
      obtain ⟨p, r'⟩ := q
      have := part_len hp
      unfold chunksE
      simp only
      cases he : endR r' with
      | error e => rfl
      | ok q =>
        obtain ⟨u, r''⟩ := q
        have := end_len he
        exact chunksF_fuel most _ _ _ r'' (by omega) (by omega)
theorem good_chunks (most : Int) : ∀ (N : Nat) (acc l : T), l.length < N → GoodAt (chunksW most acc) l
  | 0, _, _, h => absurd h (by omega)
  | N + 1, acc, l, h => by
    refine good_bind (chunksW_eq most acc) good_size l fun n r hl => ?_
    have hr := chunkSize_len hl
    by_cases h0 : n = 0
    · refine GoodAt.congr (g := chunksH acc) (fun l => by unfold chunksK; rw [if_pos h0]) ?_
      exact good_bind (g := fun _ r => .ok (acc, r)) (fun l => ⟨fun e he => by unfold chunksH; simp only [he], fun a r ho => by unfold chunksH; simp only [ho]⟩) good_headsR r fun _ r' _ => good_pure acc r'
    · refine GoodAt.congr (g := chunksP most acc n) (fun l => by unfold chunksK; rw [if_neg h0]) ?_
      refine good_bind (g := chunksE most acc) (fun l => ⟨fun e he => by unfold chunksP; simp only [he], fun a r ho => by unfold chunksP; simp only [ho]⟩) (good_part most n acc.length) r fun p r' hp => ?_
      have hr' := part_len hp
      refine good_bind (g := fun _ r => chunksW most (acc ++ p) r) (fun l => ⟨fun e he => by unfold chunksE; simp only [he], fun a r ho => by unfold chunksE; simp only [ho]⟩) good_end r' fun u r'' he => ?_
      have := end_len he
      exact good_chunks most N _ r'' (by omega)
theorem good_body (most : Int) (f : Fr) (l : T) : GoodAt (body most f) l := by
  unfold body
  by_cases h1 : 0 < f.cods.length
  · simp only [if_pos h1]
    split
    · exact good_chunks most (l.length + 1) [] l (by omega)
    · exact good_error 13 l
  · simp only [if_neg h1]
    split
    · split
      · cases hw : whole10 (f.lens.headD []) 9 with
        | error e => exact good_error e l
        | ok n => exact good_part most n 0 l
      · exact good_error 13 l
    · exact good_pure [] l
theorem good_reqLine (l : T) : GoodAt requestLine l := by
  refine good_bind (g := fun t r => if isOf (Lib.cut t [32]).1 tok && isOf (Lib.cut (Lib.cut t [32]).2.1 [32]).1 tgt && decide ((Lib.cut (Lib.cut t [32]).2.1 [32]).2.1 = version) then .ok (((Lib.cut t [32]).1, (Lib.cut (Lib.cut t [32]).2.1 [32]).1), r) else .error 13) (fun l => ⟨fun e he => by unfold requestLine; simp only [he], fun a r ho => by unfold requestLine; simp only [ho]⟩) good_line l fun t r hl => ?_
  by_cases hc : (isOf (Lib.cut t [32]).1 tok && isOf (Lib.cut (Lib.cut t [32]).2.1 [32]).1 tgt && decide ((Lib.cut (Lib.cut t [32]).2.1 [32]).2.1 = version)) = true
  · simp only [if_pos hc]; exact good_pure _ r
  · simp only [if_neg hc]; exact good_error 13 r
def reqB (most : Int) (m t : T) (f : Fr) (l : T) : R Rq := match body most f l with | .error e => .error e | .ok (b, r) => .ok (⟨m, t, f.hs, b⟩, r)
def reqH (most : Int) (mt : T × T) (l : T) : R Rq := match heads l with | .error e => .error e | .ok (f, r) => reqB most mt.1 mt.2 f r
theorem good_req (most : Int) (l : T) : GoodAt (reqR most) l := by
  refine good_bind (g := reqH most) (fun l => ⟨fun e he => by unfold reqR; simp only [he], fun a r ho => ?_⟩) good_reqLine l fun mt r _ => ?_
  · unfold reqR reqH reqB
    obtain ⟨m, t⟩ := a
    simp only [ho]
    cases heads r with
    | error e => rfl
    | ok q =>
      obtain ⟨f, r'⟩ := q
      simp only
      cases body most f r' <;> rfl
  refine good_bind (g := fun f r => reqB most mt.1 mt.2 f r) (fun l => ⟨fun e he => by unfold reqH; simp only [he], fun a r ho => by unfold reqH; simp only [ho]⟩) good_headsR r fun f r' _ => ?_
  exact good_bind (g := fun b r => .ok (⟨mt.1, mt.2, f.hs, b⟩, r)) (fun l => ⟨fun e he => by unfold reqB; simp only [he], fun a r ho => by unfold reqB; simp only [ho]⟩) (good_body most f) r' fun b r'' _ => good_pure _ r''
/- as the law asks -/
theorem bits_more (l x : T) (most : Int) (hm : okMost most) (q : Rq) (r : T) (h : reqR most l = .ok (q, r)) :
    readRequest l most = (q, l.length - r.length, 0) ∧ r.length ≤ l.length ∧ readRequest (l ++ x) most = (q, l.length - r.length, 0) ∧ ∀ k, k < l.length - r.length → (readRequest (l.take k) most).2.2 = 14 := by
  obtain ⟨m, e, h1, h2⟩ := (good_req most l).one q r h
  have hr : l.length - r.length = m.length := by rw [e, List.length_append]; omega
  refine ⟨by unfold readRequest; rw [if_pos hm, h], by rw [e, List.length_append]; omega, ?_, fun k hk => ?_⟩
  · unfold readRequest
    rw [if_pos hm, e, List.append_assoc, h1 (r ++ x)]
    simp only [List.length_append, Prod.mk.injEq, and_true, true_and]
    omega
  · unfold readRequest
    rw [hr] at hk
    have : l.take k = m.take k := by rw [e, List.take_append_of_le_length (by omega)]
    rw [if_pos hm, this, h2 k hk]
theorem bits_bad (l x : T) (most : Int) (hm : okMost most) (c : Int) (h : reqR most l = .error c) (hc : c ≠ 14) : (readRequest (l ++ x) most).2.2 = c := by
  unfold readRequest
  rw [if_pos hm, (good_req most l).bad c h hc x]
end H
end Go.Proofs.YtomicdkmbgckkaaGreatDoor

/- HTTP: THE WALK OVER SameHeads, SameRequest, of two that are one. -/
namespace Go.Proofs.YtomicdkmbgckkaaGreatDoor
open Go.RowKit
set_option maxRecDepth 100000
set_option linter.unusedVariables false
set_option linter.unusedSimpArgs false

theorem H.headsF_most : ∀ (n : Nat) (f f' : H.Fr) (l r : H.T), H.headsF n f l = .ok (f', r) → f.hs.length ≤ 64 → f'.hs.length ≤ 64
  | 0, _, _, _, _, h, _ => by cases h
  | n + 1, f, f', l, r, h, hf => by
    simp only [H.headsF] at h
    split at h
    · cases h
    · split at h
      · injection h with h; injection h with h1 h2; subst h1; exact hf
      · split at h
        · cases h
        · split at h
          · cases h
          · rename_i h3 _ _ h4
            refine H.headsF_most n _ f' _ r h ?_
            unfold H.addHead at h4
            split at h4
            · injection h4 with h4; subst h4; exact hf
            · split at h4
              · injection h4 with h4; subst h4; exact hf
              · split at h4
                · injection h4 with h4; subst h4; simp; omega
                · cases h4
theorem H.req_most {most : Int} {l r : H.T} {q : H.Rq} (h : H.reqR most l = .ok (q, r)) : q.hs.length ≤ 64 := by
  unfold H.reqR at h
  split at h
  · cases h
  · split at h
    · cases h
    · rename_i hh
      split at h
      · cases h
      · injection h with h; injection h with h1 h2; subst h1
        exact H.headsF_most _ _ _ _ _ hh (by simp)
/-- the heads stand there -/
def Hds (w : World) (ad : Option Addr) (hs : List H.Hd) : Prop := hs ≠ [] → ∃ g off, ad = some ⟨g, off, none⟩ ∧ g < w.heap.size ∧ ∀ i h, hs[i]? = some h → w.cell? ⟨g, off + i * 2, none⟩ = some (S h.name) ∧ w.cell? ⟨g, off + i * 2 + 1, none⟩ = some (S h.value)
theorem Hds.under {w w' : World} {ad : Option Addr} {hs : List H.Hd} (h : Hds w ad hs) (hb : Below w.heap.size w w') : Hds w' ad hs := fun hne => by
  obtain ⟨g, off, e, hg, hc⟩ := h hne
  refine ⟨g, off, e, Nat.lt_of_lt_of_le hg hb.size, fun i x hx => ?_⟩
  obtain ⟨a, b⟩ := hc i x hx
  exact ⟨(hb.cell (p := ⟨g, off + i * 2, none⟩) hg).trans a, (hb.cell (p := ⟨g, off + i * 2 + 1, none⟩) hg).trans b⟩
theorem flat_at : ∀ (hs : List H.Hd) (i : Nat) (h : H.Hd), hs[i]? = some h → (hs.flatMap hcells)[i * 2]? = some (S h.name) ∧ (hs.flatMap hcells)[i * 2 + 1]? = some (S h.value)
  | [], i, h, e => by simp at e
  | x :: t, 0, h, e => by simp at e; subst e; simp [hcells]
  | x :: t, i + 1, h, e => by
    have := flat_at t i h (by simpa using e)
    rw [show (i + 1) * 2 = i * 2 + 2 from by omega]
    simpa [hcells, List.flatMap_cons] using this
theorem HRow.hds {w : World} {B : Nat} {ad : Option Addr} {n cap : Nat} {hs : List H.Hd} (h : HRow w B (.slice ad n cap) hs) : n = hs.length ∧ Hds w ad hs := by
  obtain ⟨ad', cap', e⟩ := row_form h
  injection e with e1 e2 e3
  refine ⟨e2, fun hne => ?_⟩
  cases hs with
  | nil => exact absurd rfl hne
  | cons x t =>
    have h' := h
    rcases h'.2 with ⟨hv, hn⟩ | ⟨g, cap, cur, hv, hbg, hg, _⟩
    · simp at hn
    injection hv with e4 e5 e6
    subst e4 e5 e6
    refine ⟨g, 0, rfl, blk_lt hg, fun i y hy => ?_⟩
    have hi := (List.getElem?_eq_some_iff.1 hy).1
    obtain ⟨f1, f2⟩ := flat_at _ i y hy
    have hlen : (x :: t).length = t.length + 1 := rfl
    refine ⟨?_, ?_⟩
    · have := World.ownsRow.cellAt h (i * 2) (by omega)
      rw [Nat.zero_add, this]; exact f1
    · have := World.ownsRow.cellAt h (i * 2 + 1) (by omega)
      rw [Nat.zero_add, this]; exact f2
end Go.Proofs.YtomicdkmbgckkaaGreatDoor

/- HTTP: THE WALKS OVER IndexFunc of heads, isWrong. -/
namespace Go.Proofs.YtomicdkmbgckkaaGreatDoor
open Go.RowKit
set_option maxRecDepth 100000
set_option linter.unusedVariables false
set_option linter.unusedSimpArgs false

def H.idxFrom (p : H.Hd → Bool) : Int → List H.Hd → Int
  | _, [] => -1
  | k, h :: t => if p h then k else H.idxFrom p (k + 1) t
theorem H.idxFrom_at (p : H.Hd → Bool) (hs : List H.Hd) (j : Nat) (x : H.Hd) (hx : hs[j]? = some x) : H.idxFrom p (j : Int) (hs.drop j) = if p x then (j : Int) else H.idxFrom p ((j + 1 : Nat) : Int) (hs.drop (j + 1)) := by
  obtain ⟨hlt, e⟩ := List.getElem?_eq_some_iff.1 hx
  rw [List.drop_eq_getElem_cons hlt, e]
  rfl
set_option maxHeartbeats 1000000 in
theorem idx_any (w : World) (hs : List H.Hd) (ad : Option Addr) (cap : Nat) (hH : Hds w ad hs) (hmx : hs.length ≤ 281474976710656) (C : Nat) (caps : Array Value) (p : H.Hd → Bool)
    (hent : ∀ args W, (callFunc C args).run Tryz.prog W = .ok (.enter C args) W)
    (hp : ∀ W h, h ∈ hs → Below w.heap.size w W → Calls Tryz.prog C (#[.agg #[S h.name, S h.value]] ++ caps) W fun e W' => e = .returned (.bool (p h)) ∧ Below W.heap.size W W') :
    Calls Tryz.prog 41 #[.slice ad hs.length cap, .func (.func C) #[] caps] w fun e w' => e = .returned (.int .i64 (H.idxFrom p 0 hs)) ∧ Below w.heap.size w w' := by
  obtain ⟨z, hz⟩ : ∃ z : Int, ((hs.length : Nat) : Int) = z := ⟨_, rfl⟩
  obtain ⟨R, hR⟩ : ∃ R, H.idxFrom p 0 hs = R := ⟨_, rfl⟩
  rw [hR]
  have HR := Lib.hid hR
  clear hR
  go_enter Tryz.func41, Tryz.ntmps41
  go_wp2
  go_loopw [8] (fun u wr => ∃ (j : Nat), u = .int .i64 (j : Int) ∧ j ≤ hs.length ∧ H.idxFrom p (j : Int) (hs.drop j) = R ∧ Below w.heap.size w wr) (fun u _ => hs.length - (intOf u).toNat)
  case atStart => exact ⟨0, rfl, Nat.zero_le _, by simpa using HR.out, Below.refl _ _⟩
  case round =>
    obtain ⟨j, rfl, hj, hr, hb⟩ := hrel
    by_cases hlt : j < hs.length
    · have hjz : (j : Int) < z := by omega
      have hne : hs ≠ [] := by rintro rfl; simp at hlt
      obtain ⟨g1, o1, rfl, _, k1⟩ := hH.under hb hne
      obtain ⟨x, hx⟩ : ∃ x, hs[j]? = some x := ⟨_, List.getElem?_eq_getElem hlt⟩
      obtain ⟨p1, p2⟩ := k1 j x hx
      have hcall := hp wr x (List.mem_of_getElem? hx) hb
      rw [H.idxFrom_at p hs j x hx] at hr
      have hf := hent (#[.agg #[S x.name, S x.value]] ++ caps)
      have Hr := Lib.hid hr
      have Hb := Lib.hid hb
      clear k1 hr hx hb
      cases hpx : p x with
      | true =>
        rw [hpx] at hcall
        have hv : (j : Int) = R := by have := Hr.out; rw [hpx, if_pos rfl] at this; exact this
        subst hv
        go_wp2_with (refine hcall.mono ?_; rintro e w2 ⟨rfl, hb2⟩)
        go_ret
        exact ⟨rfl, Hb.out.trans (hb2.mono Hb.out.size)⟩
      | false =>
        rw [hpx] at hcall
        have hv := Hr.out
        rw [hpx, if_neg (by decide)] at hv
        have Hv := Lib.hid hv
        clear hv hpx
        go_wp2_with (refine hcall.mono ?_; rintro e w2 ⟨rfl, hb2⟩)
        have Hb2 := Lib.hid (Hb.out.trans (hb2.mono Hb.out.size))
        clear hb2
        go_wp2
        go_roundw
        case rel => exact ⟨j + 1, by go_num, by omega, Hv.out, Hb2.out⟩
        case measure => simp [intOf]; omega
    · have hjz : ¬ (j : Int) < z := by omega
      have hv : R = -1 := by
        rw [← hr, List.drop_of_length_le (by omega)]; rfl
      subst hv
      have Hb := Lib.hid hb
      clear hr hb
      go_wp2
      go_ret
      exact ⟨rfl, Hb.out⟩
/-- named(name), by what it leaves -/
theorem named_is (w : World) (s : H.T) : Calls Tryz.prog 35 #[S s] w fun e w' => ∃ g, e = .returned (.func (.func 58) #[] #[.pointer (some ⟨g, 0, none⟩)]) ∧ w'.heap[g]? = some (.cells #[S s] 9 (0, 0)) ∧ Below w.heap.size w w' := by
  refine (named_any w s).mono fun e w' h => ?_
  obtain ⟨h1, h2⟩ := h
  exact ⟨_, h1, by rw [h2]; exact blk_new w _, by rw [h2]; exact (Below.refl _ w).alloc (Nat.le_refl _) _⟩
theorem headLine_big (w : World) (n v : H.T) (hn : n.length ≤ 140737488355000 ∧ v.length ≤ 140737488355000) : Calls Tryz.prog 72 #[.agg #[S n, S v]] w fun e w' => e = .returned (S (n ++ [58, 32] ++ v)) ∧ Below w.heap.size w w' := by
  obtain ⟨X, hX⟩ : ∃ X, X = w.alloc (.cells #[S n, S v] 77) := ⟨_, rfl⟩
  have hx : X.heap[w.heap.size]? = some (.cells #[S n, S v] 77 (0, 0)) := by rw [hX]; exact blk_new w _
  have hb : Below w.heap.size w X := by rw [hX]; exact (Below.refl _ w).alloc (Nat.le_refl _) _
  obtain ⟨c0, c1⟩ := box2 hx
  have hlt := blk_lt hx
  have e1 : (⟨n.toArray⟩ : ByteArray) ++ ⟨#[58, 32]⟩ = ⟨(n ++ [58, 32]).toArray⟩ := S_app n [58, 32]
  have e2 := S_app (n ++ [58, 32]) v
  go_enter Tryz.func72, Tryz.ntmps72
  go_upto_region 1 with (fail)
  rw [← hX]
  clear hX hx
  go_wp2
  go_ret
  exact ⟨by show Ending.returned (Value.string ⟨(n ++ 58 :: 32 :: v).toArray⟩) = _; simp, hb⟩
theorem value_big (w : World) (s : H.T) (hs : s.length ≤ 140737488355000) : Calls Tryz.prog 60 #[S s] w fun e w' => e = .returned (.bool (H.isValue s)) ∧ Below w.heap.size w w' := by
  have hi := isOf_any w s 86 H.val (fun args w => by kernel_rfl) rune_val H.val_hi
  have ht : ∀ w, Calls Tryz.prog 59 #[S s, .string ⟨#[32, 9]⟩] w fun e w' => e = .returned (S (Lib.trimS s [32, 9])) ∧ Below w.heap.size w w' := fun w =>
    Any.strings_Trim_laid Tryz.lays160 (by kernel_rfl) ⟨s.toArray⟩ ⟨#[32, 9]⟩ w (by rw [S_size]; omega) (by decide) (ascii_of_all (by decide))
  unfold H.isValue
  by_cases he : s = []
  · subst he
    go_enter Tryz.func60, Tryz.ntmps60
    go_wp2
    go_ret
    exact ⟨rfl, Below.refl _ _⟩
  · have hne : ¬ (⟨s.toArray⟩ : ByteArray) = ⟨#[]⟩ := fun h => he ((S_inj (b := [])).1 h)
    have hie : s.isEmpty = false := by cases s with | nil => exact absurd rfl he | cons => rfl
    rw [hie]
    cases hv : H.isOf s H.val with
    | false =>
      rw [hv] at hi
      clear ht
      go_enter Tryz.func60, Tryz.ntmps60
      go_wp2_with (refine hi.mono ?_; rintro e w' ⟨rfl, hb⟩)
      go_ret
      exact ⟨by simp, hb⟩
    | true =>
      rw [hv] at hi
      obtain ⟨u, hu⟩ : ∃ u, Lib.trimS s [32, 9] = u := ⟨_, rfl⟩
      rw [hu] at ht ⊢
      clear hu
      by_cases hq : s = u
      · subst hq
        go_enter Tryz.func60, Tryz.ntmps60
        go_wp2_with (first | (go_at_call 32; refine hi.mono ?_; rintro e w' ⟨rfl, hb⟩) | (go_at_call 59; refine (ht _).mono ?_; rintro e w'' ⟨rfl, hb2⟩))
        go_ret
        exact ⟨by simp, hb.trans (hb2.mono hb.size)⟩
      · go_enter Tryz.func60, Tryz.ntmps60
        go_wp2_with (first | (go_at_call 32; refine hi.mono ?_; rintro e w' ⟨rfl, hb⟩) | (go_at_call 59; refine (ht _).mono ?_; rintro e w'' ⟨rfl, hb2⟩))
        go_ret
        exact ⟨by simp [hq], hb.trans (hb2.mono hb.size)⟩
/-- a head in a box, behind what has been done -/
structure Kx (w : World) (g : Nat) (n v : H.T) (W : World) : Prop where
  box : W.heap[g]? = some (.cells #[S n, S v] 77 (0, 0))
  bel : Below w.heap.size w W
theorem Kx.under {w : World} {g : Nat} {n v : H.T} {W W' : World} (h : Kx w g n v W) (hb : Below W.heap.size W W') : Kx w g n v W' := ⟨blk_under h.box hb, h.bel.trans (hb.mono h.bel.size)⟩
theorem Kx.cells {w : World} {g : Nat} {n v : H.T} {W : World} (h : Kx w g n v W) : W.cell? ⟨g, 0, none⟩ = some (S n) ∧ W.cell? ⟨g, 1, none⟩ = some (S v) := box2 h.box
theorem tokI (n : H.T) (W : World) : Calls Tryz.prog 32 #[S n, .func (.func 33) #[] #[]] W fun e w' => e = .returned (.bool (H.isOf n H.tok)) ∧ Below W.heap.size W w' := isOf_any W n 33 H.tok (fun args w => by kernel_rfl) rune_tok H.tok_hi
theorem tgtI (n : H.T) (W : World) : Calls Tryz.prog 32 #[S n, .func (.func 34) #[] #[]] W fun e w' => e = .returned (.bool (H.isOf n H.tgt)) ∧ Below W.heap.size W w' := isOf_any W n 34 H.tgt (fun args w => by kernel_rfl) rune_tgt H.tgt_hi
end Go.Proofs.YtomicdkmbgckkaaGreatDoor
