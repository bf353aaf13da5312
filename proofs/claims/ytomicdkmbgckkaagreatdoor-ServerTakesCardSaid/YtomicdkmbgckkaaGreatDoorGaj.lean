/- HTTP: THE WALKS OVER end, mustSay. -/
import Derived.Test.YtomicdkmbgckkaaGreatDoorGai
import Derived.Deep.RegionHeld2
namespace Go.Proofs.YtomicdkmbgckkaaGreatDoor
open Go.RowKit
set_option maxRecDepth 100000
set_option linter.unusedVariables false
set_option linter.unusedSimpArgs false

theorem H.end_eq (l : H.T) : H.endR l = match l with
    | [] => .error 14
    | a :: t => if a = 13 then (match t with
        | [] => .error 14
        | b :: u => if b = 10 then .ok ((), u) else .error 13)
      else .error 13 := by cases l <;> rfl
/-- what is left to be read of a line's end, from its byte i on -/
def endF : Nat → H.T → H.R Unit
  | 0, l => H.endR l
  | 1, [] => .error 14
  | 1, b :: u => if b = 10 then .ok ((), u) else .error 13
  | _, l => .ok ((), l)
def endB : Nat → Int
  | 0 => 13
  | _ => 10
theorem end_bad0 {w W : World} {g : Nat} {most : Int} {r : H.R Unit} {v : Value} {V : Unit → World → Value → Prop} (h : r = .error 13) (hg : w.grownBy W (some g)) : Read w g most r V (pan 13) ((W.setCell ⟨g, 0, none⟩ v).drew) := by
  rw [h]
  exact Read.err ((hg.trans (set_grown _ g _)).trans (below_grown (Below.refl _ _).drew _))
theorem end_bad2 {w W : World} {g : Nat} {most : Int} {r : H.R Unit} {v : Value} {V : Unit → World → Value → Prop} (h : r = .error 13) (hg : w.grownBy W (some g)) : Read w g most r V (pan 13) (W.drew.setCell ⟨g, 0, none⟩ v) := by
  rw [h]
  exact Read.err ((hg.trans (below_grown (Below.refl _ _).drew _)).trans (set_grown _ g _))
set_option maxHeartbeats 2000000 in
theorem end_any (w : World) (g : Nat) (l : H.T) (most : Int) (hc : Crs w g l most) (hl : l.length ≤ 281474976710656) :
    Calls Tryz.prog 65 #[.pointer (some ⟨g, 0, none⟩)] w (Read w g most (H.endR l) fun _ _ v => v = .tuple #[]) := by
  have hH := Lib.hid hc
  have hv : H.endR l = endF 0 l := rfl
  rw [hv]
  clear hc hv
  go_enter Tryz.func65, Tryz.ntmps65
  go_wp2
  go_loopw [3] (fun u wr => ∃ (i : Nat) (m : H.T), u = .int .i64 (i : Int) ∧ i ≤ 2 ∧ m.length ≤ 281474976710656 ∧ endF i m = endF 0 l ∧ w.grownBy wr (some g) ∧ Crs wr g m most) (fun u _ => 2 - (intOf u).toNat)
  case atStart => exact ⟨0, l, rfl, by omega, hl, rfl, below_grown (Below.refl _ _) _, hH.out⟩
  case round =>
    obtain ⟨i, m, rfl, hi, hm, he, hg, hc⟩ := hrel
    have HG := Lib.hid hg
    have HC := Lib.hid hc
    by_cases h2 : i = 2
    · subst h2
      have he' : endF 0 l = .ok ((), m) := he.symm
      clear he hg hc
      go_wp2
      go_end0
      rw [he']
      exact Read.ok HG.out rfl HC.out
    · have hi2 : (i : Int) < 2 := by omega
      have c0 := hc.c0
      have f0 := hc.f0
      have hlt := hc.lt
      cases m with
      | nil =>
        have he' : endF 0 l = .error 14 := by rw [← he]; rcases (by omega : i = 0 ∨ i = 1) with rfl | rfl <;> rfl
        clear he hg hc
        go_wp2_with (go_at_call 29; refine (unless_no _ _).mono ?_; rintro e w' ⟨rfl, rfl⟩)
        rw [he']
        exact ⟨rfl, Read.err HG.out⟩
      | cons b u =>
        have ht : ∀ W, W.heap = wr.heap → Calls Tryz.prog 52 #[.pointer (some ⟨g, 0, none⟩), .int .i64 1] W fun e w' => e = .returned (.string ⟨#[b]⟩) ∧ w' = W.setCell ⟨g, 0, none⟩ (S u) := fun W hW => take_any W g (b :: u) most 1 (by unfold Crs; rw [hW]; exact HC.out) (by simp) hm
        obtain ⟨x, hx⟩ : ∃ x : Int, ((b.toNat : Nat) : Int) = x := ⟨_, rfl⟩
        have i1 : ∀ W, (Instr.index 9 (.string ⟨#[b]⟩) (.int .i64 0)).run Tryz.prog W = .ok (.int .u8 x) W := fun W => index_str [b] 0 (by simp) x hx.symm W
        have i2 : ∀ W, (Instr.index 9 (.string ⟨#[13, 10]⟩) (.int .i64 (i : Int))).run Tryz.prog W = .ok (.int .u8 (endB i)) W := fun W => by
          rcases (by omega : i = 0 ∨ i = 1) with rfl | rfl
          · exact index_str [13, 10] 0 (by simp) 13 rfl W
          · exact index_str [13, 10] 1 (by simp) 10 rfl W
        have hnil : ¬ (⟨(b :: u).toArray⟩ : ByteArray) = ⟨#[]⟩ := fun h => by have := (S_inj (b := [])).1 h; cases this
        have HT := Lib.hid ht
        clear ht hg hc
        by_cases hb : x = endB i
        · have he' : endF (i + 1) u = endF 0 l := by
            rw [← he]
            rcases (by omega : i = 0 ∨ i = 1) with rfl | rfl
            · have hb' : b = 13 := by apply UInt8.toNat_inj.1; have h13 : (13 : UInt8).toNat = 13 := rfl; simp only [endB] at hb; omega
              subst hb'
              simp only [endF, H.endR]
              cases u <;> rfl
            · have hb' : b = 10 := by apply UInt8.toNat_inj.1; have h13 : (10 : UInt8).toNat = 10 := rfl; simp only [endB] at hb; omega
              subst hb'
              rfl
          have He := Lib.hid he'
          clear he he'
          rw [← hb] at i2
          go_wp2_with (go_at_call 29; refine (unless_yes _ _).mono ?_; rintro e w' ⟨rfl, rfl⟩)
          go_region_held3 (fun w9 => True) (first | trivial | go_keep) (first | (go_at_call 52; refine (HT.out (World.drew _) rfl).mono ?_; rintro e w8 ⟨rfl, rfl⟩) | (go_at_call 29; refine (unless_yes _ _).mono ?_; rintro e w8 ⟨rfl, rfl⟩))
          all_goals
            go_wp2
            refine ⟨⟨i + 1, u, by go_num, by omega, by simp only [List.length_cons] at hm; omega, He.out, ?_, ?_⟩, by simp [intOf]; omega⟩
            · exact (HG.out.trans (set_grown _ g _)).trans (below_grown (Below.refl _ _).drew _)
            · exact (HC.out.set u).under (Below.refl _ _).drew
        · have he' : endF 0 l = .error 13 := by
            rw [← he]
            rcases (by omega : i = 0 ∨ i = 1) with rfl | rfl
            · have hb' : ¬ b = 13 := fun h => hb (by subst h; exact hx.symm)
              simp [endF, H.endR, hb']
            · have hb' : ¬ b = 10 := fun h => hb (by subst h; exact hx.symm)
              simp [endF, hb']
          have Hq := Lib.hid (show (x == endB i) = false from by simpa using hb)
          have He := Lib.hid he'
          clear he he'
          go_wp2_with (go_at_call 29; refine (unless_yes _ _).mono ?_; rintro e w' ⟨rfl, rfl⟩)
          refine wp_region_any (by kernel_rfl) ?_
          change wpAny _ _ _ _ _ _ _ w'.drew
          refine wpAny_take (i := 0) (v := ?va1) rfl (by kernel_rfl) (by kernel_rfl) (by kernel_rfl) (fun _ _ _ h => h) (Or.inl ⟨by kernel_rfl, ?ha1⟩) ?ra1
          case ha1 => (intro w; go_simp; first | done | (with_reducible rfl))
          refine wpAny_take (i := 3) (v := ?va2) rfl (by kernel_rfl) (by kernel_rfl) (by kernel_rfl) (fun _ _ _ h => h) (Or.inl ⟨by kernel_rfl, ?ha2⟩) ?ra2
          case ha2 => (intro w; go_simp; first | done | (with_reducible rfl))
          refine wpAny_take (i := 4) (v := ?va3) rfl (by kernel_rfl) (by kernel_rfl) (by kernel_rfl) (fun _ _ _ h => h) (Or.inl ⟨by kernel_rfl, ?ha3⟩) ?ra3
          case ha3 => (intro w; go_simp; first | done | (with_reducible rfl))
          refine wpAny_ready (rs := [1]) (by kernel_rfl) (by simp) ?_
          refine AllReady.cons rfl (fun K hK => ?_) AllReady.nil
          go_simp
          refine (HT.out (World.drew _) rfl).mono ?_
          rintro e w8 ⟨rfl, rfl⟩
          refine hK _ _ ?_
          clear hK K
          refine wpAny_take (i := 2) (v := ?va4) rfl (by kernel_rfl) (by kernel_rfl) (by kernel_rfl) (fun _ _ _ h => h) (Or.inl ⟨by kernel_rfl, ?ha4⟩) ?ra4
          case ha4 => (intro w; go_simp; first | done | (with_reducible rfl))
          refine wpAny_take (i := 5) (v := ?va5) rfl (by kernel_rfl) (by kernel_rfl) (by kernel_rfl) (fun _ _ _ h => h) (Or.inl ⟨by kernel_rfl, ?ha5⟩) ?ra5
          case ha5 => (intro w; go_simp; first | done | (with_reducible rfl))
          refine wpAny_ready (rs := [6]) (by kernel_rfl) (by simp) ?_
          refine AllReady.cons rfl (fun K hK => ?_) AllReady.nil
          go_simp
          first | rw [Hq.out] | skip
          with_reducible refine (unless_no _ _).mono ?_
          rintro e w9 ⟨rfl, rfl⟩
          exact ⟨rfl, end_bad2 He.out HG.out⟩
end Go.Proofs.YtomicdkmbgckkaaGreatDoor

/- HTTP: LISTS OF HEADS IN MEMORY; the state of heads. -/
namespace Go.Proofs.YtomicdkmbgckkaaGreatDoor
open Go.RowKit
set_option maxRecDepth 100000
set_option linter.unusedVariables false
set_option linter.unusedSimpArgs false

def hcells (h : H.Hd) : List Value := [S h.name, S h.value]
def tcell (t : H.T) : List Value := [S t]
def HRow (w : World) (B : Nat) (v : Value) (hs : List H.Hd) : Prop := w.ownsRow B 77 2 v hs.length (hs.flatMap hcells)
def TRow (w : World) (B : Nat) (v : Value) (ts : List H.T) : Prop := w.ownsRow B 9 1 v ts.length (ts.flatMap tcell)
theorem row_below {w w' : World} {B : Nat} {e : TypeId} {size : Nat} {v : Value} {n : Nat} {xs : List Value} (h : w.ownsRow B e size v n xs) (hb : Below w.heap.size w w') : w'.ownsRow B e size v n xs :=
  World.ownsRow.kept h (row := none) ⟨hb.os, hb.tape, hb.output, hb.size, fun k hk _ => hb.block k hk⟩ (by cases e : v.ownBlock <;> simp)
theorem row_far {w w' : World} {B : Nat} {e : TypeId} {size : Nat} {v : Value} {n : Nat} {xs : List Value} (h : w.ownsRow B e size v n xs) {g : Nat} (hg : w.grownBy w' (some g)) (hlt : g < B) : w'.ownsRow B e size v n xs :=
  World.ownsRow.kept h hg (by
    cases e : v.ownBlock with
    | none => exact .inl rfl
    | some b => exact .inr (fun h2 => by injection h2 with h2; have := (World.ownsRow.lt h b e).1; omega))
theorem row_form {w : World} {B : Nat} {e : TypeId} {size : Nat} {v : Value} {n : Nat} {xs : List Value} (h : w.ownsRow B e size v n xs) : ∃ ad cap, v = .slice ad n cap := by
  rcases h.2 with ⟨hv, hn⟩ | ⟨g, cap, cur, hv, _⟩
  · exact ⟨none, 0, by rw [hv, hn]⟩
  · exact ⟨_, _, hv⟩
/-- three slices that share no block -/
structure Dj (u v x : Value) : Prop where
  uv : ∀ b, u.ownBlock = some b → v.ownBlock ≠ some b
  ux : ∀ b, u.ownBlock = some b → x.ownBlock ≠ some b
  vx : ∀ b, v.ownBlock = some b → x.ownBlock ≠ some b
/-- the state of the loop of heads: w the first world -/
structure HS (w W : World) (g : Nat) (most : Int) (f : H.Fr) (v lv cv : Value) (l : H.T) : Prop where
  gr : w.grownBy W (some g)
  gl : g < w.heap.size
  h8 : 8 ≤ g
  c : Crs W g l most
  r : W.heap[w.heap.size]? = some (.cells #[.slice none 0 0, .slice none 0 0] 65 (0, 0))
  fb : W.heap[w.heap.size + 1]? = some (.cells #[lv, cv] 65 (0, 0))
  b1 : W.heap[w.heap.size + 2]? = some (.cells #[S H.lengthN] 9 (0, 0))
  b2 : W.heap[w.heap.size + 3]? = some (.cells #[S H.codingN] 9 (0, 0))
  hv : HRow W (w.heap.size + 4) v f.hs
  hl : TRow W (w.heap.size + 4) lv f.lens
  hk : TRow W (w.heap.size + 4) cv f.cods
  d : Dj v lv cv
  t : Tabs W
theorem HS.sz {w W : World} {g : Nat} {most : Int} {f : H.Fr} {v lv cv : Value} {l : H.T} (h : HS w W g most f v lv cv l) : w.heap.size + 4 ≤ W.heap.size := blk_lt h.b2
theorem HS.under {w W W' : World} {g : Nat} {most : Int} {f : H.Fr} {v lv cv : Value} {l : H.T} (h : HS w W g most f v lv cv l) (hb : Below W.heap.size W W') : HS w W' g most f v lv cv l :=
  ⟨h.gr.trans (below_grown hb _), h.gl, h.h8, h.c.under hb, blk_under h.r hb, blk_under h.fb hb, blk_under h.b1 hb, blk_under h.b2 hb, row_below h.hv hb, row_below h.hl hb, row_below h.hk hb, h.d, h.t.under hb⟩
theorem HS.line {w W W' : World} {g : Nat} {most : Int} {f : H.Fr} {v lv cv : Value} {l l' : H.T} (h : HS w W g most f v lv cv l) (hg : W.grownBy W' (some g)) (hc : Crs W' g l' most) : HS w W' g most f v lv cv l' := by
  have hb : ∀ k, k < W.heap.size → k ≠ g → W'.heap[k]? = W.heap[k]? := fun k hk hne => hg.block k hk (fun e => hne (by injection e))
  have hgl := h.gl
  have hs := h.sz
  exact ⟨h.gr.trans hg, h.gl, h.h8, hc, (hb _ (by omega) (by omega)).trans h.r, (hb _ (by omega) (by omega)).trans h.fb, (hb _ (by omega) (by omega)).trans h.b1, (hb _ (by omega) (by omega)).trans h.b2,
    row_far h.hv hg (by omega), row_far h.hl hg (by omega), row_far h.hk hg (by omega), h.d, h.t.grown hg h.h8 (by omega)⟩
/-- blocks that lie above all that the state names are turned, and one cell of the box -/
theorem HS.box {w W W2 W3 : World} {g : Nat} {most : Int} {f f' : H.Fr} {v lv cv v' lv' cv' : Value} {l : H.T} {row : Option Nat} (h : HS w W g most f v lv cv l) (hg : W.grownBy W2 row) (hrow : ∀ b, row = some b → w.heap.size + 4 ≤ b)
    (ho : ∀ b, b ≠ w.heap.size + 1 → W3.heap[b]? = W2.heap[b]?) (hz : W3.heap.size = W2.heap.size) (h3 : W2.os = W3.os ∧ W2.tape = W3.tape ∧ W2.output = W3.output)
    (hf : W3.heap[w.heap.size + 1]? = some (.cells #[lv', cv'] 65 (0, 0))) (hv : HRow W3 (w.heap.size + 4) v' f'.hs) (hl : TRow W3 (w.heap.size + 4) lv' f'.lens) (hk : TRow W3 (w.heap.size + 4) cv' f'.cods) (hd : Dj v' lv' cv') : HS w W3 g most f' v' lv' cv' l := by
  have hgl := h.gl
  have hs := h.sz
  have hb : ∀ k, k < w.heap.size + 4 → k ≠ w.heap.size + 1 → W3.heap[k]? = W.heap[k]? := fun k hk hne => (ho k hne).trans (hg.block k (by omega) (fun e => by have := hrow k e.symm; omega))
  have hgr : w.grownBy W3 (some g) := ⟨h3.1.symm.trans (hg.os.trans h.gr.os), h3.2.1.symm.trans (hg.tape.trans h.gr.tape), h3.2.2.symm.trans (hg.output.trans h.gr.output), by have := hg.size; omega, fun k hk hne => (hb k (by omega) (by omega)).trans (h.gr.block k hk hne)⟩
  have h8 := h.h8
  exact ⟨hgr, hgl, h8, (hb _ (by omega) (by omega)).trans h.c, (hb _ (by omega) (by omega)).trans h.r, hf, (hb _ (by omega) (by omega)).trans h.b1, (hb _ (by omega) (by omega)).trans h.b2, hv, hl, hk, hd,
    h.t.keep ⟨h3.1.symm.trans hg.os, h3.2.1.symm.trans hg.tape, h3.2.2.symm.trans hg.output, by have := hg.size; omega, fun k hk => hb k (by omega) (by omega)⟩⟩
theorem HS.fin {w W V : World} {g : Nat} {most : Int} {f : H.Fr} {v lv cv : Value} {l : H.T} (h : HS w W g most f v lv cv l) (hV : V = ((W.setCell ⟨w.heap.size, 0, none⟩ lv).setCell ⟨w.heap.size, 1, none⟩ cv).drew) :
    V.cell? ⟨w.heap.size, 0, none⟩ = some lv ∧ V.cell? ⟨w.heap.size, 1, none⟩ = some cv ∧ w.grownBy V (some g) ∧ Crs V g l most ∧ HRow V (w.heap.size + 4) v f.hs ∧ TRow V (w.heap.size + 4) lv f.lens ∧ TRow V (w.heap.size + 4) cv f.cods := by
  obtain ⟨W2, hW2⟩ : ∃ W2, W2 = (W.setCell ⟨w.heap.size, 0, none⟩ lv).setCell ⟨w.heap.size, 1, none⟩ cv := ⟨_, rfl⟩
  rw [← hW2] at hV
  have hg : W.grownBy W2 (some w.heap.size) := ⟨by rw [hW2]; rfl, by rw [hW2]; rfl, by rw [hW2]; rfl, by rw [hW2]; simp [World.setCell], fun k _ hk => by
    have hne : k ≠ w.heap.size := fun e => hk (by rw [e])
    rw [hW2]
    exact (Below.heap_setCell _ ⟨_, 1, none⟩ _ k hne).trans (Below.heap_setCell W ⟨_, 0, none⟩ _ k hne)⟩
  have hb : W2.grownBy V none := by rw [hV]; exact below_grown (Below.refl _ _).drew none
  have hbl : Below W2.heap.size W2 V := by rw [hV]; exact (Below.refl _ _).drew
  obtain ⟨k0, k1⟩ : W2.cell? ⟨w.heap.size, 0, none⟩ = some lv ∧ W2.cell? ⟨w.heap.size, 1, none⟩ = some cv := by
    rw [hW2]; exact box2 (heap_setCell_same _ w.heap.size 1 _ 65 _ (heap_setCell_same W w.heap.size 0 _ 65 _ h.r))
  have hgl := h.gl
  have hs := h.sz
  have hz := hg.size
  have hgr : w.grownBy V (some g) := ⟨hbl.os.trans (hg.os.trans h.gr.os), hbl.tape.trans (hg.tape.trans h.gr.tape), hbl.output.trans (hg.output.trans h.gr.output), by have := h.gr.size; have := hbl.size; omega,
    fun k hk hne => (hbl.block k (by have := h.gr.size; omega)).trans ((hg.block k (by have := h.gr.size; omega) (fun e => by injection e with e; omega)).trans (h.gr.block k hk hne))⟩
  refine ⟨(cell_under hbl (by omega)).trans k0, (cell_under hbl (by omega)).trans k1, hgr, ?_, row_below (row_far h.hv hg (by omega)) hbl, row_below (row_far h.hl hg (by omega)) hbl, row_below (row_far h.hk hg (by omega)) hbl⟩
  exact (hbl.block _ (by omega)).trans ((hg.block _ (by omega) (fun e => by injection e with e; omega)).trans h.c)
end Go.Proofs.YtomicdkmbgckkaaGreatDoor

/- HTTP: THE STATE OF heads, behind an append. -/
namespace Go.Proofs.YtomicdkmbgckkaaGreatDoor
open Go.RowKit
set_option maxRecDepth 100000
set_option linter.unusedVariables false
set_option linter.unusedSimpArgs false

theorem row_kept {w w' : World} {B : Nat} {e : TypeId} {size : Nat} {v u : Value} {n : Nat} {xs : List Value} (h : w.ownsRow B e size v n xs) (hg : w.grownBy w' u.ownBlock) (hd : ∀ b, v.ownBlock = some b → u.ownBlock ≠ some b) : w'.ownsRow B e size v n xs :=
  World.ownsRow.kept h hg (by
    cases e : v.ownBlock with
    | none => exact .inl rfl
    | some b => exact .inr (fun h2 => hd b e h2.symm))
theorem own_lt {w : World} {B : Nat} {e : TypeId} {size : Nat} {v : Value} {n : Nat} {xs : List Value} (h : w.ownsRow B e size v n xs) : ∀ b, v.ownBlock = some b → B ≤ b ∧ b < w.heap.size := World.ownsRow.lt h
section
variable {w W W2 : World} {g : Nat} {most : Int} {f : H.Fr} {v lv cv v' : Value} {l : H.T}
theorem set_row {B : Nat} {e : TypeId} {size n i k : Nat} {u x : Value} {xs : List Value} (h : W2.ownsRow B e size u n xs) (hk : k < B) : (W2.setCell ⟨k, i, none⟩ x).ownsRow B e size u n xs :=
  World.ownsRow.kept h (row := some k) ⟨rfl, rfl, rfl, by simp [World.setCell], fun j _ hj => Below.heap_setCell W2 ⟨k, i, none⟩ x j (fun e => hj (by rw [e]))⟩ (by
    cases e : u.ownBlock with
    | none => exact .inl rfl
    | some b => exact .inr (fun h2 => by injection h2 with h2; have := (own_lt h b e).1; omega))
theorem HS.lens (h : HS w W g most f v lv cv l) (o : Obj) (s : H.T) (h1 : W2.ownsRow (w.heap.size + 4) 9 1 v' (f.lens.length + 1) (f.lens.flatMap tcell ++ tcell s)) (h2 : (W.alloc o).grownBy W2 lv.ownBlock) (h4 : v'.ownBlock = lv.ownBlock ∨ v'.ownBlock = some (W.heap.size + 1)) :
    W2.heap[w.heap.size + 1]? = some (.cells #[lv, cv] 65 (0, 0)) ∧ HS w (W2.setCell ⟨w.heap.size + 1, 0, none⟩ v') g most { f with lens := f.lens ++ [s] } v v' cv l := by
  have hal : Below W.heap.size W (W.alloc o) := (Below.refl _ W).alloc (Nat.le_refl _) _
  have hs := h.sz
  have hgl := h.gl
  have hsz : (W.alloc o).heap.size = W.heap.size + 1 := by simp
  have hg : W.grownBy W2 lv.ownBlock := (below_grown hal _).trans h2
  have hrow : ∀ b, lv.ownBlock = some b → w.heap.size + 4 ≤ b := fun b e => (own_lt h.hl b e).1
  have hF : W2.heap[w.heap.size + 1]? = some (.cells #[lv, cv] 65 (0, 0)) := (hg.block _ (by omega) (fun e => by have := hrow _ e.symm; omega)).trans h.fb
  refine ⟨hF, h.box hg hrow (fun b hb => Below.heap_setCell W2 ⟨_, 0, none⟩ v' b hb) (by simp [World.setCell]) ⟨rfl, rfl, rfl⟩ (heap_setCell_same W2 _ 0 _ 65 v' hF) ?_ ?_ ?_ ?_⟩
  · exact set_row (row_kept h.hv hg h.d.uv) (by omega)
  · show World.ownsRow _ _ _ _ _ _ _
    rw [List.length_append, List.flatMap_append, List.flatMap_singleton]
    exact set_row h1 (by omega)
  · exact set_row (row_kept h.hk hg (fun b e e2 => h.d.vx b e2 e)) (by omega)
  · refine ⟨fun b e e2 => ?_, h.d.ux, fun b e e2 => ?_⟩
    · rcases h4 with h4 | h4
      · exact h.d.uv b e (h4.symm.trans e2)
      · have := (own_lt h.hv b e).2; rw [h4] at e2; injection e2 with e2; omega
    · rcases h4 with h4 | h4
      · exact h.d.vx b (h4.symm.trans e) e2
      · have := (own_lt h.hk b e2).2; rw [h4] at e; injection e with e; omega
theorem HS.cods (h : HS w W g most f v lv cv l) (o : Obj) (s : H.T) (h1 : W2.ownsRow (w.heap.size + 4) 9 1 v' (f.cods.length + 1) (f.cods.flatMap tcell ++ tcell s)) (h2 : (W.alloc o).grownBy W2 cv.ownBlock) (h4 : v'.ownBlock = cv.ownBlock ∨ v'.ownBlock = some (W.heap.size + 1)) :
    W2.heap[w.heap.size + 1]? = some (.cells #[lv, cv] 65 (0, 0)) ∧ HS w (W2.setCell ⟨w.heap.size + 1, 1, none⟩ v') g most { f with cods := f.cods ++ [s] } v lv v' l := by
  have hal : Below W.heap.size W (W.alloc o) := (Below.refl _ W).alloc (Nat.le_refl _) _
  have hs := h.sz
  have hgl := h.gl
  have hsz : (W.alloc o).heap.size = W.heap.size + 1 := by simp
  have hg : W.grownBy W2 cv.ownBlock := (below_grown hal _).trans h2
  have hrow : ∀ b, cv.ownBlock = some b → w.heap.size + 4 ≤ b := fun b e => (own_lt h.hk b e).1
  have hF : W2.heap[w.heap.size + 1]? = some (.cells #[lv, cv] 65 (0, 0)) := (hg.block _ (by omega) (fun e => by have := hrow _ e.symm; omega)).trans h.fb
  refine ⟨hF, h.box hg hrow (fun b hb => Below.heap_setCell W2 ⟨_, 1, none⟩ v' b hb) (by simp [World.setCell]) ⟨rfl, rfl, rfl⟩ (heap_setCell_same W2 _ 1 _ 65 v' hF) ?_ ?_ ?_ ?_⟩
  · exact set_row (row_kept h.hv hg h.d.ux) (by omega)
  · exact set_row (row_kept h.hl hg h.d.vx) (by omega)
  · show World.ownsRow _ _ _ _ _ _ _
    rw [List.length_append, List.flatMap_append, List.flatMap_singleton]
    exact set_row h1 (by omega)
  · refine ⟨h.d.uv, fun b e e2 => ?_, fun b e e2 => ?_⟩
    · rcases h4 with h4 | h4
      · exact h.d.ux b e (h4.symm.trans e2)
      · have := (own_lt h.hv b e).2; rw [h4] at e2; injection e2 with e2; omega
    · rcases h4 with h4 | h4
      · exact h.d.vx b e (h4.symm.trans e2)
      · have := (own_lt h.hl b e).2; rw [h4] at e2; injection e2 with e2; omega
theorem HS.heads (h : HS w W g most f v lv cv l) (o : Obj) (s : H.Hd) (h1 : W2.ownsRow (w.heap.size + 4) 77 2 v' (f.hs.length + 1) (f.hs.flatMap hcells ++ hcells s)) (h2 : (W.alloc o).grownBy W2 v.ownBlock) (h4 : v'.ownBlock = v.ownBlock ∨ v'.ownBlock = some (W.heap.size + 1)) :
    HS w W2 g most { f with hs := f.hs ++ [s] } v' lv cv l := by
  have hal : Below W.heap.size W (W.alloc o) := (Below.refl _ W).alloc (Nat.le_refl _) _
  have hs := h.sz
  have hgl := h.gl
  have hsz : (W.alloc o).heap.size = W.heap.size + 1 := by simp
  have hg : W.grownBy W2 v.ownBlock := (below_grown hal _).trans h2
  have hrow : ∀ b, v.ownBlock = some b → w.heap.size + 4 ≤ b := fun b e => (own_lt h.hv b e).1
  have hF : W2.heap[w.heap.size + 1]? = some (.cells #[lv, cv] 65 (0, 0)) := (hg.block _ (by omega) (fun e => by have := hrow _ e.symm; omega)).trans h.fb
  refine h.box hg hrow (fun b _ => rfl) rfl ⟨rfl, rfl, rfl⟩ hF ?_ ?_ ?_ ?_
  · show World.ownsRow _ _ _ _ _ _ _
    rw [List.length_append, List.flatMap_append, List.flatMap_singleton]
    exact h1
  · exact row_kept h.hl hg (fun b e e2 => h.d.uv b e2 e)
  · exact row_kept h.hk hg (fun b e e2 => h.d.ux b e2 e)
  · refine ⟨fun b e e2 => ?_, fun b e e2 => ?_, h.d.vx⟩
    · rcases h4 with h4 | h4
      · exact h.d.uv b (h4.symm.trans e) e2
      · have := (own_lt h.hl b e2).2; rw [h4] at e; injection e with e; omega
    · rcases h4 with h4 | h4
      · exact h.d.ux b (h4.symm.trans e) e2
      · have := (own_lt h.hk b e2).2; rw [h4] at e; injection e with e; omega
end
end Go.Proofs.YtomicdkmbgckkaaGreatDoor

/- HTTP: THE WALK OVER heads. -/
namespace Go.Proofs.YtomicdkmbgckkaaGreatDoor
open Go.RowKit
set_option maxRecDepth 100000
set_option linter.unusedVariables false
set_option linter.unusedSimpArgs false

/-- heads, from a line that is read on -/
def H.headsG (n : Nat) (f : H.Fr) (t l : H.T) : H.R H.Fr :=
  if t = [] then .ok (f, l) else match H.head t with
    | .error e => .error e
    | .ok h => match H.addHead f h with
      | .error e => .error e
      | .ok f' => H.headsF n f' l
theorem H.headsF_succ (n : Nat) (f : H.Fr) (l : H.T) : H.headsF (n + 1) f l = match H.line l with | .error e => .error e | .ok (t, r) => H.headsG n f t r := by
  simp only [H.headsF]
  cases H.line l with
  | error e => rfl
  | ok p => rfl
/-- what heads hands out -/
def Frm (w : World) (B : Nat) (f : H.Fr) (x : Value) : Prop := ∃ v lv cv, x = .tuple #[v, .agg #[lv, cv]] ∧ HRow w B v f.hs ∧ TRow w B lv f.lens ∧ TRow w B cv f.cods
theorem hrow_nil (w : World) (B : Nat) : HRow w B (.slice none 0 0) [] := World.ownsRow_nil _ _ _ _
theorem trow_nil (w : World) (B : Nat) : TRow w B (.slice none 0 0) [] := World.ownsRow_nil _ _ _ _
theorem blk_at {w : World} {o : Obj} {g : Nat} (h : g = w.heap.size) : (w.alloc o).heap[g]? = some o := by subst h; exact blk_new w o
theorem hs_start {w : World} {g : Nat} {most : Int} {l : H.T} (hc : Crs w g l most) (h8 : 8 ≤ g) (hT : Tabs w) {X : World}
    (hX : X = (((w.alloc (.cells #[.slice none 0 0, .slice none 0 0] 65)).alloc (.cells #[.slice none 0 0, .slice none 0 0] 65)).alloc (.cells #[.string ⟨#[67, 111, 110, 116, 101, 110, 116, 45, 76, 101, 110, 103, 116, 104]⟩] 9)).alloc (.cells #[.string ⟨#[84, 114, 97, 110, 115, 102, 101, 114, 45, 69, 110, 99, 111, 100, 105, 110, 103]⟩] 9)) :
    HS w X g most ⟨[], [], []⟩ (.slice none 0 0) (.slice none 0 0) (.slice none 0 0) l := by
  have hb : Below w.heap.size w X := by rw [hX]; exact ((((Below.refl _ w).alloc (Nat.le_refl _) _).alloc (by simp) _).alloc (by simp; omega) _).alloc (by simp; omega) _
  refine ⟨below_grown hb _, hc.lt, h8, hc.under hb, ?_, ?_, ?_, ?_, hrow_nil _ _, trow_nil _ _, trow_nil _ _, ⟨by simp [Value.ownBlock], by simp [Value.ownBlock], by simp [Value.ownBlock]⟩, hT.under hb⟩
  · rw [hX]; exact blk_alloc (blk_alloc (blk_alloc (blk_new w _) _) _) _
  · rw [hX]; exact blk_alloc (blk_alloc (blk_at (by simp)) _) _
  · rw [hX]; exact blk_alloc (blk_at (by simp)) _
  · rw [hX]; exact blk_at (by simp)
theorem Tryz.info77 : (Tryz.prog.info? 77).map (fun i => (i.zero, i.size, i.bytes)) = some (some (.agg #[.string ⟨#[]⟩, .string ⟨#[]⟩]), 2, 32) := by kernel_rfl
theorem Tryz.info9 : (Tryz.prog.info? 9).map (fun i => (i.zero, i.size, i.bytes)) = some (some (.string ⟨#[]⟩), 1, 16) := by kernel_rfl
theorem info_parts {P : Program} {t : TypeId} {z : Value} {n b : Nat} (h : (P.info? t).map (fun i => (i.zero, i.size, i.bytes)) = some (some z, n, b)) : ∃ i, P.info? t = some i ∧ i.zero = some z ∧ i.size = n ∧ i.bytes = b := by
  cases hi : P.info? t with
  | none => rw [hi] at h; cases h
  | some i =>
    rw [hi] at h
    simp only [Option.map_some, Option.some.injEq, Prod.mk.injEq] at h
    exact ⟨i, rfl, h.1, h.2.1, h.2.2⟩
def leftOf (g : Nat) (w : World) : Nat := match w.cell? ⟨g, 0, none⟩ with | some (.string s) => s.size | _ => 0
theorem Crs.left {w : World} {g : Nat} {l : H.T} {m : Int} (h : Crs w g l m) : leftOf g w = l.length := by
  unfold leftOf
  rw [h.c0]
  exact S_size l
set_option maxHeartbeats 8000000 in
theorem heads_any (w : World) (g : Nat) (l : H.T) (most : Int) (hc : Crs w g l most) (hl : l.length ≤ 149533581377000) (hT : Tabs w) (h8 : 8 ≤ g) :
    Calls Tryz.prog 22 #[.pointer (some ⟨g, 0, none⟩)] w (Read w g most (H.heads l) fun f W x => Frm W (w.heap.size + 4) f x) := by
  obtain ⟨i0, hi0, hz0, hz1, hz2⟩ := info_parts Tryz.info77
  obtain ⟨i1, hi1, hy0, hy1, hy2⟩ := info_parts Tryz.info9
  obtain ⟨X, hX⟩ : ∃ X, X = (((w.alloc (.cells #[.slice none 0 0, .slice none 0 0] 65)).alloc (.cells #[.slice none 0 0, .slice none 0 0] 65)).alloc (.cells #[.string ⟨#[67, 111, 110, 116, 101, 110, 116, 45, 76, 101, 110, 103, 116, 104]⟩] 9)).alloc (.cells #[.string ⟨#[84, 114, 97, 110, 115, 102, 101, 114, 45, 69, 110, 99, 111, 100, 105, 110, 103]⟩] 9) := ⟨_, rfl⟩
  have HX := Lib.hid (hs_start hc h8 hT hX)
  have hsz : X.heap.size = w.heap.size + 4 := by rw [hX]; simp
  have hlX := HX.out.c.lt
  have hv : H.heads l = match H.line l with | .error e => .error e | .ok (t, r) => H.headsG l.length ⟨[], [], []⟩ t r := H.headsF_succ _ _ _
  rw [hv]
  clear hv hc hT
  cases hr : H.line l with
  | error c =>
    have hq := line_err HX.out.c (by omega) hr
    simp only
    clear hr
    go_enter Tryz.func22, Tryz.ntmps22
    go_upto_region 4 with (go_at_call 35; refine (named_any _ _).mono ?_; rintro e w' ⟨rfl, rfl⟩)
    rw [← hX]
    clear hX
    go_wp2_with (refine hq.mono ?_; rintro e w1 ⟨rfl, hg⟩)
    exact ⟨rfl, Read.err (HX.out.gr.trans hg)⟩
  | ok p =>
    obtain ⟨t0, r0⟩ := p
    have hq := line_ok HX.out.c (by omega) hr
    have hlen := H.line_len hr
    simp only
    clear hr
    go_enter Tryz.func22, Tryz.ntmps22
    go_upto_region 4 with (go_at_call 35; refine (named_any _ _).mono ?_; rintro e w' ⟨rfl, rfl⟩)
    rw [← hX]
    clear hX
    go_wp2_with fail
    refine hq.mono ?_
    rintro e w1 ⟨rfl, hg, hc1⟩
    have H1 := Lib.hid (HX.out.line hg hc1)
    clear hg hc1 hq HX
    go_wp2
    go_loopw [4, 8] (fun v s wr => ∃ (n : Nat) (f : H.Fr) (t l' : H.T) (lv cv : Value), s = S t ∧ t.length ≤ 4098 ∧ l'.length < n ∧ H.headsG n f t l' = H.headsG l.length ⟨[], [], []⟩ t0 r0 ∧ HS w wr g most f v lv cv l' ∧ f.hs.length ≤ 64 ∧ 17 * f.lens.length + t.length + 2 + l'.length ≤ l.length ∧ 17 * f.cods.length + t.length + 2 + l'.length ≤ l.length) (fun _ _ wr => leftOf g wr)
    case atStart => exact ⟨l.length, _, t0, r0, _, _, rfl, hlen.1, hlen.2.1, rfl, H1.out, by simp, by have := hlen.2.2; simp; omega, by have := hlen.2.2; simp; omega⟩
    case round =>
      clear H1
      obtain ⟨n, f, t, l', lv, cv, rfl, htl, hn, he, hs, hf64, hln, hcn⟩ := hrel
      have HS0 := Lib.hid hs
      have hleft := hs.c.left
      have Hleft := Lib.hid hleft
      clear hs hleft
      by_cases ht : t = []
      · subst ht
        have he' : H.headsG l.length ⟨[], [], []⟩ t0 r0 = .ok (f, l') := he.symm
        obtain ⟨adl, capl, rfl⟩ := row_form HS0.out.hl
        obtain ⟨adc, capc, rfl⟩ := row_form HS0.out.hk
        obtain ⟨q0, q1⟩ := box2 HS0.out.r
        obtain ⟨p0, p1⟩ := box2 HS0.out.fb
        obtain ⟨z0, z1⟩ := frz2 HS0.out.r
        have hlr := blk_lt HS0.out.r
        have hlf := blk_lt HS0.out.fb
        clear he
        go_wp2
        go_region
        go_wp2
        obtain ⟨V, hV⟩ : ∃ V, V = ((wr.setCell ⟨w.heap.size, 0, none⟩ (.slice adl f.lens.length capl)).setCell ⟨w.heap.size, 1, none⟩ (.slice adc f.cods.length capc)).drew := ⟨_, rfl⟩
        rw [← hV]
        obtain ⟨k0, k1, hg, hc, r1, r2, r3⟩ := HS0.out.fin hV
        clear hV
        refine bodyPost_ret (by simp [results, Tryz.results22, go_sem, k0, k1]; try rfl) rfl ?_
        rw [he']
        exact Read.ok hg ⟨_, _, _, rfl, r1, r2, r3⟩ hc
      · have hne : ¬ (⟨t.toArray⟩ : ByteArray) = ⟨#[]⟩ := fun h => ht ((S_inj (b := [])).1 h)
        have hie : t.isEmpty = false := by cases t with | nil => exact absurd rfl ht | cons => rfl
        have hh := head_any wr t (by omega) HS0.out.t
        cases hd : H.head t with
        | error c =>
          rw [hd] at hh
          simp only at hh
          have he' : H.headsG l.length ⟨[], [], []⟩ t0 r0 = .error c := by rw [← he]; unfold H.headsG; rw [if_neg ht, hd]
          clear he hd
          go_wp2_with (go_at_call 36; refine hh.mono ?_; rintro e w2 ⟨hb, rfl⟩)
          rw [he']
          exact ⟨rfl, Read.err (HS0.out.under hb).gr⟩
        | ok h =>
          obtain ⟨nm, vl⟩ := h
          rw [hd] at hh
          simp only at hh
          have hnl := H.head_name hd
          have hG : H.headsG n f t l' = match H.addHead f ⟨nm, vl⟩ with | .error e => .error e | .ok f' => H.headsF n f' l' := by unfold H.headsG; rw [if_neg ht, hd]
          rw [hG] at he
          obtain ⟨m, rfl⟩ : ∃ m, n = m + 1 := ⟨n - 1, by omega⟩
          simp only at hnl
          clear hd hG
          go_wp2_with fail
          refine hh.mono ?_
          rintro e w2 ⟨hb, rfl⟩
          have HS1 := Lib.hid (HS0.out.under hb)
          clear hb hh HS0
          obtain ⟨W, hW⟩ : ∃ W, W = w2.alloc (.cells #[S nm, S vl] 77) := ⟨_, rfl⟩
          have hbW : Below w2.heap.size w2 W := by rw [hW]; exact (Below.refl _ w2).alloc (Nat.le_refl _) _
          have HH := Lib.hid (show W.heap[w2.heap.size]? = some (.cells #[S nm, S vl] 77 (0, 0)) from by rw [hW]; exact blk_new w2 _)
          have HS2 := Lib.hid (HS1.out.under hbW)
          clear hbW HS1
          go_upto_region 10 with (fail)
          rw [← hW]
          clear hW
          obtain ⟨c0, c1⟩ := box2 HH.out
          have hlh := blk_lt HH.out
          have ht1 := test_any W nm vl H.lengthN (w.heap.size + 1 + 1) (show W.heap[w.heap.size + 1 + 1]? = _ from HS2.out.b1) (by omega)
          cases h1 : H.alike nm H.lengthN with
          | true =>
            have hal := H.alike_len _ _ h1
            have hnm14 : nm.length = 14 := hal
            rw [h1] at ht1
            have ha : H.addHead f ⟨nm, vl⟩ = .ok { f with lens := f.lens ++ [vl] } := by unfold H.addHead; rw [if_pos h1]
            rw [ha] at he
            simp only at he
            clear ha h1 hal
            go_wp2_with fail
            refine ht1.mono ?_
            rintro e w3 ⟨rfl, hb3⟩
            have HS3 := Lib.hid (HS2.out.under hb3)
            have HH3 := Lib.hid (blk_under HH.out hb3)
            clear hb3 HS2 HH c0 c1 hlh ht1
            obtain ⟨c0, c1⟩ := box2 HH3.out
            have hlh := blk_lt HH3.out
            obtain ⟨p0, p1⟩ := box2 HS3.out.fb
            have hlf := blk_lt HS3.out.fb
            have Hown := Lib.hid (World.ownsRow.alloc HS3.out.hl (.cells #[S vl] 9))
            have Hnews := Lib.hid (show ∀ j u, [S vl][j]? = some u → (w3.alloc (.cells #[S vl] 9)).cell? ((⟨w3.heap.size, 0, none⟩ : Addr).add j) = some u from fun j u hj => by
              rw [Addr.add_lit, Nat.zero_add, cell_of_row _ w3.heap.size j _ 9 (0, 0) (blk_new w3 _)]
              simpa using hj)
            have Hones := Lib.hid (show ∀ u ∈ [S vl], u.oneCell' = true from fun u hu => by simp at hu; subst hu; rfl)
            have hBsz := HS3.out.sz
            go_wp2_with (at_builtin; refine wpList_append_own_at _ rfl _ _ 63 rfl (w.heap.size + 4) 9 i1 _ 1 16 Tryz.underlying63 hi1 hy0 hy1 hy2 rfl (by decide) _ _ _ rfl Hown.out ⟨w3.heap.size, 0, none⟩ 1 1 [S vl] rfl rfl Hnews.out Hones.out (by simp only [maxLen]; omega) (by omega) (by simp; omega) ?_)
            intro v' w5 a1 a2 _ a4
            obtain ⟨hF5, hs5⟩ := HS3.out.lens _ vl a1 a2 a4
            obtain ⟨ad5, cap5, rfl⟩ := row_form a1
            obtain ⟨x0, x1⟩ := box2 hF5
            obtain ⟨y0, y1⟩ := frz2 hF5
            have hl5 := blk_lt hF5
            have HS5 := Lib.hid hs5
            clear hs5 a1 a2 a4 c0 c1 hlh p0 p1 hlf HS3 HH3 Hown Hnews Hones hF5
            go_upto_region 6 with (fail)
            obtain ⟨V, hV⟩ : ∃ V, V = w5.setCell ⟨w.heap.size + 1, 0, none⟩ (.slice ad5 (f.lens.length + 1) cap5) := ⟨_, rfl⟩
            rw [← hV]
            replace HS5 := Lib.hid (hV ▸ HS5.out)
            clear hV x0 x1 y0 y1 hl5
            rw [H.headsF_succ] at he
            cases hr2 : H.line l' with
            | error c =>
              rw [hr2] at he
              simp only at he
              have he' : H.headsG l.length ⟨[], [], []⟩ t0 r0 = .error c := he.symm
              have hq2 := line_err HS5.out.c (by omega) hr2
              clear he hr2
              go_wp2_with (refine hq2.mono ?_; rintro e w6 ⟨rfl, hg6⟩)
              rw [he']
              exact ⟨rfl, Read.err (HS5.out.gr.trans hg6)⟩
            | ok p2 =>
              obtain ⟨t2, l2⟩ := p2
              rw [hr2] at he
              simp only at he
              have hq2 := line_ok HS5.out.c (by omega) hr2
              have hlen2 := H.line_len hr2
              clear hr2
              go_wp2_with fail
              refine hq2.mono ?_
              rintro e w6 ⟨rfl, hg6, hc6⟩
              have HS6 := Lib.hid (HS5.out.line hg6 hc6)
              have hleft6 := hc6.left
              clear hg6 hc6 hq2
              go_wp2
              go_roundw
              case rel => exact ⟨m, _, t2, l2, _, _, rfl, hlen2.1, by have := hlen2.2.1; omega, he, HS6.out, hf64, by have := hlen2.2.2; simp only [List.length_append, List.length_cons, List.length_nil]; omega, by have := hlen2.2.2; simp only [List.length_append]; omega⟩
              case measure => rw [hleft6, Hleft.out]; exact hlen2.2.1
          | false =>
            rw [h1] at ht1
            have ht2 := fun w3 (hb3 : Below W.heap.size W w3) => test_any w3 nm vl H.codingN (w.heap.size + 1 + 1 + 1) (show w3.heap[w.heap.size + 1 + 1 + 1]? = _ from (HS2.out.under hb3).b2) (by omega)
            go_wp2_with fail
            refine ht1.mono ?_
            rintro e w3 ⟨rfl, hb3⟩
            have HS3 := Lib.hid (HS2.out.under hb3)
            have HH3 := Lib.hid (blk_under HH.out hb3)
            have ht3 := ht2 w3 hb3
            clear hb3 HS2 HH c0 c1 hlh ht1 ht2
            obtain ⟨c0, c1⟩ := box2 HH3.out
            have hlh := blk_lt HH3.out
            cases h2 : H.alike nm H.codingN with
            | true =>
              have hal := H.alike_len _ _ h2
              have hnm17 : nm.length = 17 := hal
              rw [h2] at ht3
              have ha : H.addHead f ⟨nm, vl⟩ = .ok { f with cods := f.cods ++ [vl] } := by unfold H.addHead; rw [if_neg (by rw [h1]; decide), if_pos h2]
              rw [ha] at he
              simp only at he
              clear ha h1 h2 hal
              go_wp2_with fail
              refine ht3.mono ?_
              rintro e w4 ⟨rfl, hb4⟩
              have HS4 := Lib.hid (HS3.out.under hb4)
              have HH4 := Lib.hid (blk_under HH3.out hb4)
              clear hb4 HS3 HH3 c0 c1 hlh ht3
              obtain ⟨c0, c1⟩ := box2 HH4.out
              have hlh := blk_lt HH4.out
              obtain ⟨p0, p1⟩ := box2 HS4.out.fb
              have hlf := blk_lt HS4.out.fb
              have Hown := Lib.hid (World.ownsRow.alloc HS4.out.hk (.cells #[S vl] 9))
              have Hnews := Lib.hid (show ∀ j u, [S vl][j]? = some u → (w4.alloc (.cells #[S vl] 9)).cell? ((⟨w4.heap.size, 0, none⟩ : Addr).add j) = some u from fun j u hj => by
                rw [Addr.add_lit, Nat.zero_add, cell_of_row _ w4.heap.size j _ 9 (0, 0) (blk_new w4 _)]
                simpa using hj)
              have Hones := Lib.hid (show ∀ u ∈ [S vl], u.oneCell' = true from fun u hu => by simp at hu; subst hu; rfl)
              have hBsz := HS4.out.sz
              go_wp2_with (at_builtin; refine wpList_append_own_at _ rfl _ _ 63 rfl (w.heap.size + 4) 9 i1 _ 1 16 Tryz.underlying63 hi1 hy0 hy1 hy2 rfl (by decide) _ _ _ rfl Hown.out ⟨w4.heap.size, 0, none⟩ 1 1 [S vl] rfl rfl Hnews.out Hones.out (by simp only [maxLen]; omega) (by omega) (by simp; omega) ?_)
              intro v' w5 a1 a2 _ a4
              obtain ⟨hF5, hs5⟩ := HS4.out.cods _ vl a1 a2 a4
              obtain ⟨ad5, cap5, rfl⟩ := row_form a1
              obtain ⟨x0, x1⟩ := box2 hF5
              obtain ⟨y0, y1⟩ := frz2 hF5
              have hl5 := blk_lt hF5
              have HS5 := Lib.hid hs5
              clear hs5 a1 a2 a4 c0 c1 hlh p0 p1 hlf HS4 HH4 Hown Hnews Hones hF5
              go_upto_region 6 with (fail)
              obtain ⟨V, hV⟩ : ∃ V, V = w5.setCell ⟨w.heap.size + 1, 1, none⟩ (.slice ad5 (f.cods.length + 1) cap5) := ⟨_, rfl⟩
              rw [← hV]
              replace HS5 := Lib.hid (hV ▸ HS5.out)
              clear hV x0 x1 y0 y1 hl5
              rw [H.headsF_succ] at he
              cases hr2 : H.line l' with
              | error c =>
                rw [hr2] at he
                simp only at he
                have he' : H.headsG l.length ⟨[], [], []⟩ t0 r0 = .error c := he.symm
                have hq2 := line_err HS5.out.c (by omega) hr2
                clear he hr2
                go_wp2_with (refine hq2.mono ?_; rintro e w6 ⟨rfl, hg6⟩)
                rw [he']
                exact ⟨rfl, Read.err (HS5.out.gr.trans hg6)⟩
              | ok p2 =>
                obtain ⟨t2, l2⟩ := p2
                rw [hr2] at he
                simp only at he
                have hq2 := line_ok HS5.out.c (by omega) hr2
                have hlen2 := H.line_len hr2
                clear hr2
                go_wp2_with fail
                refine hq2.mono ?_
                rintro e w6 ⟨rfl, hg6, hc6⟩
                have HS6 := Lib.hid (HS5.out.line hg6 hc6)
                have hleft6 := hc6.left
                clear hg6 hc6 hq2
                go_wp2
                go_roundw
                case rel => exact ⟨m, _, t2, l2, _, _, rfl, hlen2.1, by have := hlen2.2.1; omega, he, HS6.out, hf64, by have := hlen2.2.2; simp only [List.length_append]; omega, by have := hlen2.2.2; simp only [List.length_append, List.length_cons, List.length_nil]; omega⟩
                case measure => rw [hleft6, Hleft.out]; exact hlen2.2.1
            | false =>
              rw [h2] at ht3
              go_wp2_with fail
              refine ht3.mono ?_
              rintro e w4 ⟨rfl, hb4⟩
              have HS4 := Lib.hid (HS3.out.under hb4)
              have HH4 := Lib.hid (blk_under HH3.out hb4)
              clear hb4 HS3 HH3 c0 c1 hlh ht3
              by_cases h64 : f.hs.length < 64
              · have ha : H.addHead f ⟨nm, vl⟩ = .ok { f with hs := f.hs ++ [⟨nm, vl⟩] } := by unfold H.addHead; rw [if_neg (by rw [h1]; decide), if_neg (by rw [h2]; decide), if_pos h64]
                rw [ha] at he
                simp only at he
                have h64' : ((f.hs.length : Nat) : Int) < 64 := by omega
                clear ha h1 h2
                obtain ⟨adv, capv, rfl⟩ := row_form HS4.out.hv
                go_upto_region 9 with (go_at_call 29; refine (unless_yes _ _).mono ?_; rintro e w4 ⟨rfl, rfl⟩)
                obtain ⟨u, hu⟩ : ∃ u, u = Value.slice adv f.hs.length capv := ⟨_, rfl⟩
                rw [← hu]
                replace HS4 := Lib.hid (hu ▸ HS4.out)
                clear hu
                obtain ⟨c0, c1⟩ := box2 HH4.out
                have hlh := blk_lt HH4.out
                obtain ⟨p0, p1⟩ := box2 HS4.out.fb
                have hlf := blk_lt HS4.out.fb
                have Hown := Lib.hid (World.ownsRow.alloc HS4.out.hv (.cells #[S nm, S vl] 77))
                have Hnews := Lib.hid (show ∀ j u, [S nm, S vl][j]? = some u → (w4.alloc (.cells #[S nm, S vl] 77)).cell? ((⟨w4.heap.size, 0, none⟩ : Addr).add j) = some u from fun j u hj => by
                  rw [Addr.add_lit, Nat.zero_add, cell_of_row _ w4.heap.size j _ 77 (0, 0) (blk_new w4 _)]
                  simpa using hj)
                have Hones := Lib.hid (show ∀ u ∈ [S nm, S vl], u.oneCell' = true from fun u hu => by simp at hu; rcases hu with rfl | rfl <;> rfl)
                have hBsz := HS4.out.sz
                go_wp2_with (at_builtin; refine wpList_append_own_at _ rfl _ _ 48 rfl (w.heap.size + 4) 77 i0 _ 2 32 Tryz.underlying48 hi0 hz0 hz1 hz2 rfl (by decide) _ _ _ rfl Hown.out ⟨w4.heap.size, 0, none⟩ 1 1 [S nm, S vl] rfl rfl Hnews.out Hones.out (by simp only [maxLen]; omega) (by omega) (by simp; omega) ?_)
                intro v' w5 a1 a2 _ a4
                have hs5 := HS4.out.heads _ ⟨nm, vl⟩ a1 a2 a4
                have HS5 := Lib.hid hs5
                clear hs5 a1 a2 a4 c0 c1 hlh p0 p1 hlf HS4 HH4 Hown Hnews Hones
                rw [H.headsF_succ] at he
                cases hr2 : H.line l' with
                | error c =>
                  rw [hr2] at he
                  simp only at he
                  have he' : H.headsG l.length ⟨[], [], []⟩ t0 r0 = .error c := he.symm
                  have hq2 := line_err HS5.out.c (by omega) hr2
                  clear he hr2
                  go_wp2_with (refine hq2.mono ?_; rintro e w6 ⟨rfl, hg6⟩)
                  rw [he']
                  exact ⟨rfl, Read.err (HS5.out.gr.trans hg6)⟩
                | ok p2 =>
                  obtain ⟨t2, l2⟩ := p2
                  rw [hr2] at he
                  simp only at he
                  have hq2 := line_ok HS5.out.c (by omega) hr2
                  have hlen2 := H.line_len hr2
                  clear hr2
                  go_wp2_with fail
                  refine hq2.mono ?_
                  rintro e w6 ⟨rfl, hg6, hc6⟩
                  have HS6 := Lib.hid (HS5.out.line hg6 hc6)
                  have hleft6 := hc6.left
                  clear hg6 hc6 hq2
                  go_wp2
                  go_roundw
                  case rel => exact ⟨m, _, t2, l2, _, _, rfl, hlen2.1, by have := hlen2.2.1; omega, he, HS6.out, by simp only [List.length_append, List.length_cons, List.length_nil]; omega, by have := hlen2.2.2; simp only [List.length_append]; omega, by have := hlen2.2.2; simp only [List.length_append]; omega⟩
                  case measure => rw [hleft6, Hleft.out]; exact hlen2.2.1
              · have ha : H.addHead f ⟨nm, vl⟩ = .error 4 := by unfold H.addHead; rw [if_neg (by rw [h1]; decide), if_neg (by rw [h2]; decide), if_neg h64]
                rw [ha] at he
                simp only at he
                have he' : H.headsG l.length ⟨[], [], []⟩ t0 r0 = .error 4 := he.symm
                have h64' : ¬ ((f.hs.length : Nat) : Int) < 64 := by omega
                obtain ⟨z, hz⟩ : ∃ z : Int, ((f.hs.length : Nat) : Int) = z := ⟨_, rfl⟩
                have Hq := Lib.hid (show decide (z < 64) = false from by simp; omega)
                clear ha h1 h2 he
                obtain ⟨adv, capv, rfl⟩ := row_form HS4.out.hv
                go_wp2_with (go_at_call 29; first | (with_reducible refine (unless_no _ _).mono ?_; rintro e w9 ⟨rfl, rfl⟩) | (rw [Hq.out]; refine (unless_no _ _).mono ?_; rintro e w9 ⟨rfl, rfl⟩))
                rw [he']
                exact ⟨rfl, Read.err HS4.out.gr⟩
end Go.Proofs.YtomicdkmbgckkaaGreatDoor

/- HTTP: THE WALKS OVER strings.Builder: copyCheck, WriteString. -/
namespace Go.Proofs.YtomicdkmbgckkaaGreatDoor
open Go.RowKit
set_option maxRecDepth 100000
set_option linter.unusedVariables false
set_option linter.unusedSimpArgs false

theorem Tryz.sz104 : (Tryz.prog.info? 111).map (·.size) = some 2 := by kernel_rfl
/-- a builder, written to or not -/
abbrev IsB (B b : Nat) (l : H.T) (w : World) : Prop := Lib.IsBuilder 111 5 B b (Lib.byteCells l) w
theorem check_used (b : Nat) (w : World) (h0 : w.cell? ⟨b, 0, none⟩ = some (.pointer (some ⟨b, 0, none⟩))) :
    Calls Tryz.prog 87 #[.pointer (some ⟨b, 0, none⟩)] w fun e w' => e = .returned (.tuple #[]) ∧ w' = w := by
  obtain ⟨j, hj, _⟩ := Option.map_eq_some_iff.1 Tryz.sz104
  go_enter Tryz.func87, Tryz.ntmps87
  go_wp2
  rw [Lib.run_neq_ptr_same w _ Tryz.underlying108 hj]
  go_wp2
  go_end0
  exact ⟨rfl, rfl⟩
set_option maxHeartbeats 1000000 in
theorem check_fresh (b : Nat) (w : World) (h0 : w.cell? ⟨b, 0, none⟩ = some (.pointer none)) (hsh : w.shape? b = some (111, 2)) (hfz : w.frozen? ⟨b, 0, none⟩ = false) :
    Calls Tryz.prog 87 #[.pointer (some ⟨b, 0, none⟩)] w fun e w' => e = .returned (.tuple #[]) ∧ w' = w.setCell ⟨b, 0, none⟩ (.pointer (some ⟨b, 0, none⟩)) := by
  obtain ⟨j, hj, hjs⟩ := Option.map_eq_some_iff.1 Tryz.sz104
  go_enter Tryz.func87, Tryz.ntmps87
  go_wp2
  rw [Lib.run_to_unsafe w ⟨b, 0, none⟩ Tryz.underlying108 Tryz.underlying144 hj (by rw [hjs]; decide) hsh (Nat.zero_lt_succ 1)]
  simp only [Result.andThen]
  rw [Oper.upon_value]
  go_wp2
  rw [run_callFunc_extern Tryz.func105 (by kernel_rfl) (by kernel_rfl) (by kernel_rfl) (e := Extern.AbiNoEscape.same) (by kernel_rfl)]
  rw [Lib.run_noEscape]
  simp only [Result.andThen]
  rw [Oper.upon_value]
  go_wp2
  rw [Lib.run_from_unsafe w ⟨b, 0, none⟩ Tryz.underlying144 Tryz.underlying108 hj hsh (by kernel_rfl)]
  simp only [Result.andThen]
  rw [Oper.upon_value]
  go_wp2
  go_end0
  exact ⟨rfl, rfl⟩
theorem check_any (B b : Nat) (bs : List Value) (w : World) (h : Lib.IsBuilder 111 5 B b bs w) :
    Calls Tryz.prog 87 #[.pointer (some ⟨b, 0, none⟩)] w fun e w' => e = .returned (.tuple #[]) ∧ (Lib.BuilderAt 111 5 B b (.pointer (some ⟨b, 0, none⟩)) bs w' ∧ Below B w w') := by
  rcases h with h | h
  · refine (check_fresh b w h.cell0 h.shape h.frozen0).mono ?_
    rintro e w' ⟨rfl, rfl⟩
    exact ⟨rfl, h.used _, (Below.refl B w).setCell (p := ⟨b, 0, none⟩) h.1 _⟩
  · refine (check_used b w h.cell0).mono ?_
    rintro e w' ⟨rfl, rfl⟩
    exact ⟨rfl, h, Below.refl B _⟩
theorem Tryz.info5 : (Tryz.prog.info? 5).map (fun i => (i.zero, i.size, i.bytes)) = some (some (.int .u8 0), 1, 1) := by kernel_rfl
theorem bytes_app (l s : H.T) : Lib.byteCells l ++ Lib.strCells ⟨s.toArray⟩ = Lib.byteCells (l ++ s) := by
  simp [Lib.byteCells, Lib.strCells]
set_option maxHeartbeats 2000000 in
theorem write_str (B b : Nat) (l s : H.T) (w : World) (h : IsB B b l w) (hlen : l.length + s.length ≤ 140737488355328) (hBw : B ≤ w.heap.size) :
    Calls Tryz.prog 63 #[.pointer (some ⟨b, 0, none⟩), S s] w fun e w' => e = .returned (.tuple #[.int .i64 (s.length : Int), .nilIface]) ∧ (IsB B b (l ++ s) w' ∧ Below B w w') := by
  obtain ⟨i0, hi, hz0, hz1, hz2⟩ := info_parts Tryz.info5
  obtain ⟨bs, hbs⟩ : ∃ bs, Lib.byteCells l = bs := ⟨_, rfl⟩
  have hbl : bs.length = l.length := by rw [← hbs]; simp [Lib.byteCells]
  have hfin := bytes_app l s
  unfold IsB at *
  rw [hbs] at h hfin
  obtain ⟨z, hz⟩ : ∃ z : ByteArray, z = ⟨s.toArray⟩ := ⟨_, rfl⟩
  have hzs : z.size = s.length := by rw [hz]; exact S_size s
  rw [← hz] at hfin
  show Calls Tryz.prog 63 #[.pointer (some ⟨b, 0, none⟩), .string ⟨s.toArray⟩] w _
  rw [← hz, ← hzs, ← hfin]
  have Hzs := Lib.hid hzs
  have Hbl := Lib.hid hbl
  clear hz hzs hbl hfin hbs
  go_enter Tryz.func63, Tryz.ntmps63
  go_wp2_with (refine (check_any B b bs _ h).mono ?_)
  rintro e w1 ⟨rfl, h1, hb1⟩
  obtain ⟨hB, v, hbk, hown, hne⟩ := h1
  have c0 : w1.cell? ⟨b, 0, none⟩ = some (.pointer (some ⟨b, 0, none⟩)) := by rw [Lib.cell_of_heap hbk]; rfl
  have c1 : w1.cell? ⟨b, 1, none⟩ = some v := by rw [Lib.cell_of_heap hbk]; rfl
  go_wp2_with (at_builtin; refine Lib.wpList_append_own_string _ rfl _ _ 109 9 rfl B 5 i0 Tryz.underlying109 Tryz.underlying9 hi hz0 hz1 hz2 _ _ _ rfl hown z rfl ?c3 ?c4 ?c5 ?_)
  case c3 => have := Hzs.out; have := Hbl.out; unfold maxLen; omega
  case c4 => have := Hzs.out; have := Hbl.out; omega
  case c5 => have := hb1.size; omega
  intro v' w2 hown' hgrow _
  have hlt : b < w1.heap.size := blk_lt hbk
  have hb2 : w2.heap[b]? = some (.cells #[.pointer (some ⟨b, 0, none⟩), v] 111 (0, 0)) := by
    rw [hgrow.block b hlt (fun e => hne e.symm)]
    exact hbk
  have d0 : w2.cell? ⟨b, 0, none⟩ = some (.pointer (some ⟨b, 0, none⟩)) := by rw [Lib.cell_of_heap hb2]; rfl
  have d1 : w2.cell? ⟨b, 1, none⟩ = some v := by rw [Lib.cell_of_heap hb2]; rfl
  have f1 : w2.frozen? ⟨b, 1, none⟩ = false := Lib.frozen_of_heap hb2 1
  obtain ⟨ao, cap, rfl⟩ := row_form hown'
  go_wp2
  go_ret2
  refine ⟨rfl, .inr ?_, ?_⟩
  · exact Lib.BuilderAt.put (T := 111) (e := 5) hB hb2 (bs' := bs ++ Lib.strCells z) (by simpa [Lib.strCells_length] using hown') (by decide)
  · exact (hb1.grown hgrow (by have := hb1.size; omega) (fun k hk => (World.ownsRow.lt hown k hk).1)).setCell (p := ⟨b, 1, none⟩) hB _
end Go.Proofs.YtomicdkmbgckkaaGreatDoor

/- HTTP: THE WALK OVER chunks. -/
namespace Go.Proofs.YtomicdkmbgckkaaGreatDoor
open Go.RowKit
set_option maxRecDepth 100000
set_option linter.unusedVariables false
set_option linter.unusedSimpArgs false

theorem IsB.far {B b g : Nat} {l : H.T} {w w' : World} (h : IsB B b l w) (hg : w.grownBy w' (some g)) (hlt : g < B) : IsB B b l w' := by
  have key : ∀ p, Lib.BuilderAt 111 5 B b p (Lib.byteCells l) w → Lib.BuilderAt 111 5 B b p (Lib.byteCells l) w' := fun p ⟨hB, v, hb, hown, hne⟩ =>
    ⟨hB, v, (hg.block b (blk_lt hb) (fun e => by injection e with e; omega)).trans hb, row_far hown hg hlt, hne⟩
  exact h.elim (fun x => .inl (key _ x)) (fun x => .inr (key _ x))
theorem IsB.lt {B b : Nat} {l : H.T} {w : World} (h : IsB B b l w) : B ≤ b ∧ b < w.heap.size := by
  rcases h with ⟨hB, v, hb, _⟩ | ⟨hB, v, hb, _⟩ <;> exact ⟨hB, blk_lt hb⟩
/-- chunks, from a length that is read on -/
def H.chunksG (most : Int) (k : Nat) (acc : H.T) (n : Nat) (r : H.T) : H.R H.T :=
  if n = 0 then (match H.heads r with
    | .error e => .error e
    | .ok (_, r') => .ok (acc, r'))
  else match H.part most n acc.length r with
    | .error e => .error e
    | .ok (p, r') => match H.endR r' with
      | .error e => .error e
      | .ok (_, r'') => H.chunksF most k (acc ++ p) r''
theorem H.chunksF_succ (most : Int) (k : Nat) (acc l : H.T) : H.chunksF most (k + 1) acc l = match H.chunkSize l with | .error e => .error e | .ok (n, r) => H.chunksG most k acc n r := by
  simp only [H.chunksF]
  cases H.chunkSize l with
  | error e => rfl
  | ok p => rfl
theorem H.chunkSize_len {l r : H.T} {n : Nat} (h : H.chunkSize l = .ok (n, r)) : r.length < l.length := by
  unfold H.chunkSize at h
  cases hl : H.line l with
  | error e => rw [hl] at h; cases h
  | ok p =>
    obtain ⟨t, r0⟩ := p
    rw [hl] at h
    simp only at h
    cases hw : H.whole16 (Lib.cut t [59]).1 with
    | error e => rw [hw] at h; cases h
    | ok m => rw [hw] at h; injection h with h; injection h with _ h; rw [← h]; exact (H.line_len hl).2.1
theorem H.whole16_lt {l : H.T} {n : Nat} (h : H.whole16 l = .ok n) : n < 4294967296 := by
  unfold H.whole16 H.wholeO at h
  split at h
  · rename_i hl
    have key : ∀ (k : Nat) (l : H.T) (a m : Nat), l.length ≤ k → a < 16 ^ (8 - k) → k ≤ 8 → H.hexF a l = some m → m < 16 ^ 8 := by
      intro k
      induction k with
      | zero =>
        intro l a m hl ha _ hm
        have : l = [] := List.eq_nil_of_length_eq_zero (by omega)
        subst this
        simp only [H.hexF, Option.some.injEq] at hm
        simpa [← hm] using ha
      | succ k ih =>
        intro l a m hl ha hk hm
        cases l with
        | nil =>
          simp only [H.hexF, Option.some.injEq] at hm
          have := Nat.pow_le_pow_right (n := 16) (by omega) (show 8 - (k + 1) ≤ 8 by omega)
          omega
        | cons b t =>
          simp only [H.hexF] at hm
          cases hb : H.hexv b with
          | none => rw [hb] at hm; cases hm
          | some d =>
            rw [hb] at hm
            have hd : d < 16 := by
              unfold H.hexv H.hexN at hb
              split at hb
              · injection hb with hb; omega
              · split at hb
                · injection hb with hb; omega
                · split at hb
                  · injection hb with hb; omega
                  · cases hb
            refine ih t _ m (by simp only [List.length_cons] at hl; omega) ?_ (by omega) hm
            have e : 16 ^ (8 - k) = 16 * 16 ^ (8 - (k + 1)) := by rw [← Nat.pow_succ']; congr 1; omega
            rw [e]
            omega
    cases ho : H.hexO l with
    | none => rw [ho] at h; cases h
    | some m =>
      rw [ho] at h
      injection h with h
      subst h
      unfold H.hexO at ho
      split at ho
      · cases ho
      · have := key 8 l 0 m hl (by decide) (by omega) ho
        simpa using this
  · cases h
theorem H.chunkSize_lt {l r : H.T} {n : Nat} (h : H.chunkSize l = .ok (n, r)) : n < 4294967296 := by
  unfold H.chunkSize at h
  cases hl : H.line l with
  | error e => rw [hl] at h; cases h
  | ok p =>
    obtain ⟨t, r0⟩ := p
    rw [hl] at h
    simp only at h
    cases hw : H.whole16 (Lib.cut t [59]).1 with
    | error e => rw [hw] at h; cases h
    | ok m => rw [hw] at h; injection h with h; injection h with h _; rw [← h]; exact H.whole16_lt hw
theorem H.end_len {l r : H.T} (h : H.endR l = .ok ((), r)) : r.length ≤ l.length := by
  match l, h with
  | [], h => cases h
  | [a], h => simp only [H.endR] at h; split at h <;> cases h
  | a :: b :: u, h =>
    simp only [H.endR] at h
    split at h
    · split at h
      · injection h with h; injection h with _ h; rw [← h]; simp only [List.length_cons]; omega
      · cases h
    · cases h
theorem chunkSize_ok {w : World} {g : Nat} {l : H.T} {most : Int} (hc : Crs w g l most) (hl : l.length ≤ 281474976710656) (hT : Tabs w) (h8 : 8 ≤ g) {n : Nat} {r : H.T} (h : H.chunkSize l = .ok (n, r)) :
    Calls Tryz.prog 62 #[.pointer (some ⟨g, 0, none⟩)] w fun e w' => e = .returned (.int .u64 (n : Int)) ∧ w.grownBy w' (some g) ∧ Crs w' g r most :=
  (chunkSize_any w g l most hc hl hT h8).mono fun e w' hr => by
    obtain ⟨h1, h2⟩ := hr
    rw [h] at h2
    obtain ⟨v, e1, e2, e3⟩ := h2
    exact ⟨by rw [e1, e2], h1, e3⟩
theorem chunkSize_err {w : World} {g : Nat} {l : H.T} {most : Int} (hc : Crs w g l most) (hl : l.length ≤ 281474976710656) (hT : Tabs w) (h8 : 8 ≤ g) {c : Int} (h : H.chunkSize l = .error c) :
    Calls Tryz.prog 62 #[.pointer (some ⟨g, 0, none⟩)] w fun e w' => e = pan c ∧ w.grownBy w' (some g) :=
  (chunkSize_any w g l most hc hl hT h8).mono fun e w' hr => by
    obtain ⟨h1, h2⟩ := hr
    rw [h] at h2
    exact ⟨h2, h1⟩
/-- the state of the loop of chunks -/
structure CS (w W : World) (g : Nat) (most : Int) (acc l : H.T) : Prop where
  gr : w.grownBy W (some g)
  gl : g < w.heap.size
  h8 : 8 ≤ g
  c : Crs W g l most
  b : IsB w.heap.size w.heap.size acc W
  t : Tabs W
theorem CS.sz {w W : World} {g : Nat} {most : Int} {acc l : H.T} (h : CS w W g most acc l) : w.heap.size < W.heap.size := h.b.lt.2
theorem CS.step {w W W' : World} {g : Nat} {most : Int} {acc l l' : H.T} (h : CS w W g most acc l) (hg : W.grownBy W' (some g)) (hc : Crs W' g l' most) : CS w W' g most acc l' :=
  ⟨h.gr.trans hg, h.gl, h.h8, hc, h.b.far hg h.gl, h.t.grown hg h.h8 (by have := h.sz; have := h.gl; omega)⟩
theorem CS.put {w W W' : World} {g : Nat} {most : Int} {acc acc' l : H.T} (h : CS w W g most acc l) (hb : Below w.heap.size W W') (hB : IsB w.heap.size w.heap.size acc' W') : CS w W' g most acc' l := by
  have hgl := h.gl
  have h8 := h.h8
  refine ⟨⟨hb.os.trans h.gr.os, hb.tape.trans h.gr.tape, hb.output.trans h.gr.output, Nat.le_trans h.gr.size hb.size, fun k hk hne => (hb.block k hk).trans (h.gr.block k hk hne)⟩, hgl, h8, (hb.block _ hgl).trans h.c, hB, h.t.keep (hb.mono (by omega))⟩
end Go.Proofs.YtomicdkmbgckkaaGreatDoor
