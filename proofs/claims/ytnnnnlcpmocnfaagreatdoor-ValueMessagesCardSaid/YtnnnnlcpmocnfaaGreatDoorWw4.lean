/- MESSAGES OF VALUES: a list, a map, WALKED. -/
import Derived.Test.YtnnnnlcpmocnfaaGreatDoorWw3
import Derived.Test.YtnnnnlcpmocnfaaGreatDoorCk10
import Derived.Outline
import Derived.WalkLawsBesides
import Derived.Deep.RegionLaw
import Derived.Deep.RegionHeld3
namespace Go.Proofs.YtnnnnlcpmocnfaaGreatDoor
open Go.RowKit
set_option linter.unusedVariables false
set_option linter.unusedSimpArgs false
attribute [local go_sem] run_store_float

theorem blk4_s {W : World} {g : Nat} {x0 x1 x2 x3 : Value} (h : W.heap[g]? = some (.cells #[x0, x1, x2, x3] 73 (0, 0))) (v : Value) :
    (W.cell? ⟨g, 3, none⟩ = some x3 ∧ W.frozen? ⟨g, 3, none⟩ = false) ∧ (W.setCell ⟨g, 3, none⟩ v).heap[g]? = some (.cells #[x0, x1, x2, v] 73 (0, 0)) := by
  refine ⟨⟨cell_of_row W g 3 _ 73 (0, 0) h, frozen_of_row W g 3 _ 73 h⟩, ?_⟩
  rw [setCell_eq_setRow W g 3 _ 73 (0, 0) v h]; exact setRow_heap W g _ _ 73 (0, 0) h

theorem wjoin_short {rs : List Res} {t : List UInt8} (h : wjoin rs = .ok t) : t.length ≤ 65536 := by
  unfold wjoin at h
  cases hj : joined rs with
  | error e => rw [hj] at h; cases h
  | ok fs => rw [hj] at h; exact wrE_short h

set_option maxRecDepth 100000 in
set_option maxHeartbeats 8000000 in
theorem w_list (x : V) (a1 a2 : Option Addr) (c1 c2 : Nat) (hk : x.k = 5) (rs : List Res) (hrs : rs = x.l.map wmsg) (hs : Short rs) (hn1 : x.l.length ≤ 1000000) (R : Res) (hR : around 5 (wjoin rs) = R) (w : World)
    (hcl : ∀ (W : World) (k : Nat) (r : Res), Below (w.alloc (.cells (gv 5 x.s x.b x.n x.f (.slice a1 x.l.length c1) (.slice a2 x.p.length c2)) 27)).heap.size (w.alloc (.cells (gv 5 x.s x.b x.n x.f (.slice a1 x.l.length c1) (.slice a2 x.p.length c2)) 27)) W → rs[k]? = some r → Calls Tryz.prog 51 #[.int .i64 (k : Int), .pointer (some ⟨w.heap.size, 0, none⟩)] W (Wrote r W)) :
    Calls Tryz.prog 19 #[.agg (gv 5 x.s x.b x.n x.f (.slice a1 x.l.length c1) (.slice a2 x.p.length c2))] w (Wrote R w) := by
  have Hcl := Lib.hid hcl
  have Hs := Lib.hid hs
  have Hln := Lib.hid (show x.l.length = rs.length by rw [hrs]; simp)
  clear hcl hs hrs
  have l1 : ∀ (X : World) (g : Nat), X.heap.size = g → (Instr.lookup 75 (.map (some g)) (.int .u8 5) true).run Tryz.prog (X.alloc (.map m7 7)).drew = .ok (.tuple #[fv 5 2, .bool true]) (X.alloc (.map m7 7)).drew := fun X g hg => by
    subst hg; exact look7 (W := (X.alloc (.map m7 7)).drew) (heap_alloc_new X _) 5 4 (fv 5 2) (by rfl)
  have l2 : ∀ (X : World) (o : Obj) (g : Nat), X.heap.size = g → (Instr.lookup 75 (.map (some g)) (.int .u8 5) true).run Tryz.prog ((X.alloc (.map m7 7)).alloc o).drew = .ok (.tuple #[fv 5 2, .bool true]) ((X.alloc (.map m7 7)).alloc o).drew := fun X o g hg => by
    subst hg; exact look7 (W := ((X.alloc (.map m7 7)).alloc o).drew) (blk_alloc (heap_alloc_new X _) o) 5 4 (fv 5 2) (by rfl)
  have hk0 : ((w.alloc (.cells (gv 5 x.s x.b x.n x.f (.slice a1 x.l.length c1) (.slice a2 x.p.length c2)) 27)).drew).cell? ⟨w.heap.size, 0, none⟩ = some (.int .u8 5) := cell_of_row _ w.heap.size 0 (gv 5 x.s x.b x.n x.f (.slice a1 x.l.length c1) (.slice a2 x.p.length c2)) 27 (0, 0) (blk_new w _)
  have hmf : ∀ (fn : Fn) (first cap : Array Value) (w : World), (Instr.makeFunc fn first cap).run Tryz.prog w = .ok (.func fn first cap) w := fun _ _ _ _ => rfl
  have Hn1 := Lib.hid hn1
  clear hn1
  have HR := Lib.hid hR
  clear hR
  generalize x.l.length = n1 at *
  generalize x.p.length = n2 at *
  cases hj : wjoin rs with
  | error c =>
    rw [hj] at HR
    have HJ := Lib.hid hj
    clear hj
    go_enter Tryz.func19, Tryz.ntmps19
    go_wp2
    go_region_held3 (fun w' => w'.cell? ⟨w.heap.size, 0, none⟩ = some (.int .u8 5))
      (first | exact hk0 | go_keep)
      (first | (go_at_call 49; refine (places_any _).mono ?_; rintro e w8 ⟨rfl, rfl⟩) | fail)
    all_goals
      clear l1 l2 hk0
      go_wp2_with fail
      refine (parts_96 rs _ Hln.out Hs.out Hn1.out w.heap.size _ (fun W k r hb hr => Hcl.out W k r (Below.trans (by go_grown) (hb.mono (by simp <;> omega))) hr)).mono ?_
      intro e w3 hc
      rw [HJ.out] at hc
      obtain ⟨rfl, hb3⟩ := hc.no
      refine ⟨rfl, ?_⟩
      rw [← HR.out]
      refine Wrote.mkn (Below.trans ?_ (hb3.mono (by simp <;> omega)))
      go_grown
  | ok t =>
    rw [hj] at HR
    have HJ := Lib.hid hj
    clear hj
    have HR2 := Lib.hid (show wrE [bf 5 t] = R from HR.out)
    have Ht := Lib.hid (show t.length ≤ 65536 from wjoin_short HJ.out)
    clear HR
    have hm : ∀ W (g : Nat), W.heap[g]? = some (.cells (fcells 5 2 0 t) 73 (0, 0)) → Calls Tryz.prog 53 #[.slice (some ⟨g, 0, none⟩) 1 1] W (Wrote R W) := fun W g hg => message_fd W g _ 5 2 0 t (bf_fit 5 t (by omega) (by have := Ht.out; omega)) hg _ HR2.out
    have Hm := Lib.hid hm
    clear hm HR2
    cases R with
    | error c =>
      go_enter Tryz.func19, Tryz.ntmps19
      go_wp2
      go_region_held3 (fun w' => w'.cell? ⟨w.heap.size, 0, none⟩ = some (.int .u8 5))
        (first | exact hk0 | go_keep)
        (first | (go_at_call 49; refine (places_any _).mono ?_; rintro e w8 ⟨rfl, rfl⟩) | fail)
      all_goals
        clear l1 l2 hk0
        go_wp2_with fail
        refine (parts_96 rs _ Hln.out Hs.out Hn1.out w.heap.size _ (fun W k r hb hr => Hcl.out W k r (Below.trans (by go_grown) (hb.mono (by simp <;> omega))) hr)).mono ?_
        intro e w3 hc
        rw [HJ.out] at hc
        obtain ⟨rfl, hb3⟩ := hc.ok
        first | (have HB3 : w3.heap[w.heap.size + 1 + 1]? = some (.cells #[.int .i64 5, .int .u8 2, .int .u64 0, .string ⟨#[]⟩] 73 (0, 0)) := (hb3.block (w.heap.size + 1 + 1) (by simp)).trans (by first | (exact blk_at (by simp)) | fail)) | (have HB3 : w3.heap[w.heap.size + 1]? = some (.cells #[.int .i64 5, .int .u8 2, .int .u64 0, .string ⟨#[]⟩] 73 (0, 0)) := (hb3.block (w.heap.size + 1) (by simp)).trans (by first | (exact blk_alloc (blk_at (by simp)) _) | fail)) | fail
        obtain ⟨⟨z3, y3⟩, HS⟩ := blk4_s HB3 (.string ⟨t.toArray⟩)
        obtain ⟨u0, u1, u2, u3⟩ := box4 HS
        clear HB3 HS
        have hsz : w.heap.size + 3 ≤ w3.heap.size := by have := hb3.size; simp at this; omega
        have Hsz := Lib.hid hsz
        clear hsz
        go_wp2_with fail
        refine (Hm.out _ _ (by first | exact blk_at (by simp) | (refine blk_at ?_; simp))).mono ?_
        intro e w9 hc9
        obtain ⟨rfl, hb9⟩ := hc9.no
        refine ⟨rfl, ?_⟩
        have hsz := Hsz.out
        refine Wrote.mkn (Below.trans (((Below.trans ?_ (hb3.mono (by simp <;> omega))).setCell (by first | (show w.heap.size ≤ w.heap.size + 1 + 1; omega) | (show w.heap.size ≤ w.heap.size + 1; omega)) _).alloc (by first | omega | (simp; done) | (simp; omega) | fail) _) (hb9.mono (by first | omega | (simp; done) | (simp; omega) | fail)))
        go_grown
    | ok c =>
      go_enter Tryz.func19, Tryz.ntmps19
      go_wp2
      go_region_held3 (fun w' => w'.cell? ⟨w.heap.size, 0, none⟩ = some (.int .u8 5))
        (first | exact hk0 | go_keep)
        (first | (go_at_call 49; refine (places_any _).mono ?_; rintro e w8 ⟨rfl, rfl⟩) | fail)
      all_goals
        clear l1 l2 hk0
        go_wp2_with fail
        refine (parts_96 rs _ Hln.out Hs.out Hn1.out w.heap.size _ (fun W k r hb hr => Hcl.out W k r (Below.trans (by go_grown) (hb.mono (by simp <;> omega))) hr)).mono ?_
        intro e w3 hc
        rw [HJ.out] at hc
        obtain ⟨rfl, hb3⟩ := hc.ok
        first | (have HB3 : w3.heap[w.heap.size + 1 + 1]? = some (.cells #[.int .i64 5, .int .u8 2, .int .u64 0, .string ⟨#[]⟩] 73 (0, 0)) := (hb3.block (w.heap.size + 1 + 1) (by simp)).trans (by first | (exact blk_at (by simp)) | fail)) | (have HB3 : w3.heap[w.heap.size + 1]? = some (.cells #[.int .i64 5, .int .u8 2, .int .u64 0, .string ⟨#[]⟩] 73 (0, 0)) := (hb3.block (w.heap.size + 1) (by simp)).trans (by first | (exact blk_alloc (blk_at (by simp)) _) | fail)) | fail
        obtain ⟨⟨z3, y3⟩, HS⟩ := blk4_s HB3 (.string ⟨t.toArray⟩)
        obtain ⟨u0, u1, u2, u3⟩ := box4 HS
        clear HB3 HS
        have hsz : w.heap.size + 3 ≤ w3.heap.size := by have := hb3.size; simp at this; omega
        have Hsz := Lib.hid hsz
        clear hsz
        go_wp2_with fail
        refine (Hm.out _ _ (by first | exact blk_at (by simp) | (refine blk_at ?_; simp))).mono ?_
        intro e w9 hc9
        obtain ⟨rfl, hb9⟩ := hc9.ok
        go_wp2
        go_ret
        have hsz := Hsz.out
        refine Wrote.mk0 (Below.trans (((Below.trans ?_ (hb3.mono (by simp <;> omega))).setCell (by first | (show w.heap.size ≤ w.heap.size + 1 + 1; omega) | (show w.heap.size ≤ w.heap.size + 1; omega)) _).alloc (by first | omega | (simp; done) | (simp; omega) | fail) _) (hb9.mono (by first | omega | (simp; done) | (simp; omega) | fail)))
        go_grown

set_option maxRecDepth 100000 in
set_option maxHeartbeats 8000000 in
theorem w_map (x : V) (a1 a2 : Option Addr) (c1 c2 : Nat) (hk : x.k = 6) (rs : List Res) (hrs : rs = x.p.map fun e => wpair e.1 e.2) (hs : Short rs) (hn1 : x.p.length ≤ 1000000) (R : Res) (hR : around 6 (wjoin rs) = R) (w : World)
    (hcl : ∀ (W : World) (k : Nat) (r : Res), Below (w.alloc (.cells (gv 6 x.s x.b x.n x.f (.slice a1 x.l.length c1) (.slice a2 x.p.length c2)) 27)).heap.size (w.alloc (.cells (gv 6 x.s x.b x.n x.f (.slice a1 x.l.length c1) (.slice a2 x.p.length c2)) 27)) W → rs[k]? = some r → Calls Tryz.prog 52 #[.int .i64 (k : Int), .pointer (some ⟨w.heap.size, 0, none⟩)] W (Wrote r W)) :
    Calls Tryz.prog 19 #[.agg (gv 6 x.s x.b x.n x.f (.slice a1 x.l.length c1) (.slice a2 x.p.length c2))] w (Wrote R w) := by
  have Hcl := Lib.hid hcl
  have Hs := Lib.hid hs
  have Hln := Lib.hid (show x.p.length = rs.length by rw [hrs]; simp)
  clear hcl hs hrs
  have l1 : ∀ (X : World) (g : Nat), X.heap.size = g → (Instr.lookup 75 (.map (some g)) (.int .u8 6) true).run Tryz.prog (X.alloc (.map m7 7)).drew = .ok (.tuple #[fv 6 2, .bool true]) (X.alloc (.map m7 7)).drew := fun X g hg => by
    subst hg; exact look7 (W := (X.alloc (.map m7 7)).drew) (heap_alloc_new X _) 6 5 (fv 6 2) (by rfl)
  have l2 : ∀ (X : World) (o : Obj) (g : Nat), X.heap.size = g → (Instr.lookup 75 (.map (some g)) (.int .u8 6) true).run Tryz.prog ((X.alloc (.map m7 7)).alloc o).drew = .ok (.tuple #[fv 6 2, .bool true]) ((X.alloc (.map m7 7)).alloc o).drew := fun X o g hg => by
    subst hg; exact look7 (W := ((X.alloc (.map m7 7)).alloc o).drew) (blk_alloc (heap_alloc_new X _) o) 6 5 (fv 6 2) (by rfl)
  have hk0 : ((w.alloc (.cells (gv 6 x.s x.b x.n x.f (.slice a1 x.l.length c1) (.slice a2 x.p.length c2)) 27)).drew).cell? ⟨w.heap.size, 0, none⟩ = some (.int .u8 6) := cell_of_row _ w.heap.size 0 (gv 6 x.s x.b x.n x.f (.slice a1 x.l.length c1) (.slice a2 x.p.length c2)) 27 (0, 0) (blk_new w _)
  have hmf : ∀ (fn : Fn) (first cap : Array Value) (w : World), (Instr.makeFunc fn first cap).run Tryz.prog w = .ok (.func fn first cap) w := fun _ _ _ _ => rfl
  have Hn1 := Lib.hid hn1
  clear hn1
  have HR := Lib.hid hR
  clear hR
  generalize x.l.length = n1 at *
  generalize x.p.length = n2 at *
  cases hj : wjoin rs with
  | error c =>
    rw [hj] at HR
    have HJ := Lib.hid hj
    clear hj
    go_enter Tryz.func19, Tryz.ntmps19
    go_wp2
    go_region_held3 (fun w' => w'.cell? ⟨w.heap.size, 0, none⟩ = some (.int .u8 6))
      (first | exact hk0 | go_keep)
      (first | (go_at_call 49; refine (places_any _).mono ?_; rintro e w8 ⟨rfl, rfl⟩) | fail)
    all_goals
      clear l1 l2 hk0
      go_wp2_with fail
      refine (parts_97 rs _ Hln.out Hs.out Hn1.out w.heap.size _ (fun W k r hb hr => Hcl.out W k r (Below.trans (by go_grown) (hb.mono (by simp <;> omega))) hr)).mono ?_
      intro e w3 hc
      rw [HJ.out] at hc
      obtain ⟨rfl, hb3⟩ := hc.no
      refine ⟨rfl, ?_⟩
      rw [← HR.out]
      refine Wrote.mkn (Below.trans ?_ (hb3.mono (by simp <;> omega)))
      go_grown
  | ok t =>
    rw [hj] at HR
    have HJ := Lib.hid hj
    clear hj
    have HR2 := Lib.hid (show wrE [bf 6 t] = R from HR.out)
    have Ht := Lib.hid (show t.length ≤ 65536 from wjoin_short HJ.out)
    clear HR
    have hm : ∀ W (g : Nat), W.heap[g]? = some (.cells (fcells 6 2 0 t) 73 (0, 0)) → Calls Tryz.prog 53 #[.slice (some ⟨g, 0, none⟩) 1 1] W (Wrote R W) := fun W g hg => message_fd W g _ 6 2 0 t (bf_fit 6 t (by omega) (by have := Ht.out; omega)) hg _ HR2.out
    have Hm := Lib.hid hm
    clear hm HR2
    cases R with
    | error c =>
      go_enter Tryz.func19, Tryz.ntmps19
      go_wp2
      go_region_held3 (fun w' => w'.cell? ⟨w.heap.size, 0, none⟩ = some (.int .u8 6))
        (first | exact hk0 | go_keep)
        (first | (go_at_call 49; refine (places_any _).mono ?_; rintro e w8 ⟨rfl, rfl⟩) | fail)
      all_goals
        clear l1 l2 hk0
        go_wp2_with fail
        refine (parts_97 rs _ Hln.out Hs.out Hn1.out w.heap.size _ (fun W k r hb hr => Hcl.out W k r (Below.trans (by go_grown) (hb.mono (by simp <;> omega))) hr)).mono ?_
        intro e w3 hc
        rw [HJ.out] at hc
        obtain ⟨rfl, hb3⟩ := hc.ok
        first | (have HB3 : w3.heap[w.heap.size + 1 + 1]? = some (.cells #[.int .i64 6, .int .u8 2, .int .u64 0, .string ⟨#[]⟩] 73 (0, 0)) := (hb3.block (w.heap.size + 1 + 1) (by simp)).trans (by first | (exact blk_at (by simp)) | fail)) | (have HB3 : w3.heap[w.heap.size + 1]? = some (.cells #[.int .i64 6, .int .u8 2, .int .u64 0, .string ⟨#[]⟩] 73 (0, 0)) := (hb3.block (w.heap.size + 1) (by simp)).trans (by first | (exact blk_alloc (blk_at (by simp)) _) | fail)) | fail
        obtain ⟨⟨z3, y3⟩, HS⟩ := blk4_s HB3 (.string ⟨t.toArray⟩)
        obtain ⟨u0, u1, u2, u3⟩ := box4 HS
        clear HB3 HS
        have hsz : w.heap.size + 3 ≤ w3.heap.size := by have := hb3.size; simp at this; omega
        have Hsz := Lib.hid hsz
        clear hsz
        go_wp2_with fail
        refine (Hm.out _ _ (by first | exact blk_at (by simp) | (refine blk_at ?_; simp))).mono ?_
        intro e w9 hc9
        obtain ⟨rfl, hb9⟩ := hc9.no
        refine ⟨rfl, ?_⟩
        have hsz := Hsz.out
        refine Wrote.mkn (Below.trans (((Below.trans ?_ (hb3.mono (by simp <;> omega))).setCell (by first | (show w.heap.size ≤ w.heap.size + 1 + 1; omega) | (show w.heap.size ≤ w.heap.size + 1; omega)) _).alloc (by first | omega | (simp; done) | (simp; omega) | fail) _) (hb9.mono (by first | omega | (simp; done) | (simp; omega) | fail)))
        go_grown
    | ok c =>
      go_enter Tryz.func19, Tryz.ntmps19
      go_wp2
      go_region_held3 (fun w' => w'.cell? ⟨w.heap.size, 0, none⟩ = some (.int .u8 6))
        (first | exact hk0 | go_keep)
        (first | (go_at_call 49; refine (places_any _).mono ?_; rintro e w8 ⟨rfl, rfl⟩) | fail)
      all_goals
        clear l1 l2 hk0
        go_wp2_with fail
        refine (parts_97 rs _ Hln.out Hs.out Hn1.out w.heap.size _ (fun W k r hb hr => Hcl.out W k r (Below.trans (by go_grown) (hb.mono (by simp <;> omega))) hr)).mono ?_
        intro e w3 hc
        rw [HJ.out] at hc
        obtain ⟨rfl, hb3⟩ := hc.ok
        first | (have HB3 : w3.heap[w.heap.size + 1 + 1]? = some (.cells #[.int .i64 6, .int .u8 2, .int .u64 0, .string ⟨#[]⟩] 73 (0, 0)) := (hb3.block (w.heap.size + 1 + 1) (by simp)).trans (by first | (exact blk_at (by simp)) | fail)) | (have HB3 : w3.heap[w.heap.size + 1]? = some (.cells #[.int .i64 6, .int .u8 2, .int .u64 0, .string ⟨#[]⟩] 73 (0, 0)) := (hb3.block (w.heap.size + 1) (by simp)).trans (by first | (exact blk_alloc (blk_at (by simp)) _) | fail)) | fail
        obtain ⟨⟨z3, y3⟩, HS⟩ := blk4_s HB3 (.string ⟨t.toArray⟩)
        obtain ⟨u0, u1, u2, u3⟩ := box4 HS
        clear HB3 HS
        have hsz : w.heap.size + 3 ≤ w3.heap.size := by have := hb3.size; simp at this; omega
        have Hsz := Lib.hid hsz
        clear hsz
        go_wp2_with fail
        refine (Hm.out _ _ (by first | exact blk_at (by simp) | (refine blk_at ?_; simp))).mono ?_
        intro e w9 hc9
        obtain ⟨rfl, hb9⟩ := hc9.ok
        go_wp2
        go_ret
        have hsz := Hsz.out
        refine Wrote.mk0 (Below.trans (((Below.trans ?_ (hb3.mono (by simp <;> omega))).setCell (by first | (show w.heap.size ≤ w.heap.size + 1 + 1; omega) | (show w.heap.size ≤ w.heap.size + 1; omega)) _).alloc (by first | omega | (simp; done) | (simp; omega) | fail) _) (hb9.mono (by first | omega | (simp; done) | (simp; omega) | fail)))
        go_grown

/-- a value that is right, with some lists and maps around it -/
def Right (x : V) : Prop := ∃ d, chk x d = 0
theorem chkL_all : ∀ {l : List V} {d : Int}, chkL l d = 0 → ∀ y ∈ l, chk y d = 0 := by
  intro l
  induction l with
  | nil => intro d _ y hy; cases hy
  | cons x l ih =>
    intro d h y hy
    rw [chkL] at h
    by_cases hx : chk x d = 0
    · rw [if_pos hx] at h
      rcases List.mem_cons.1 hy with rfl | hy
      · exact hx
      · exact ih h y hy
    · rw [if_neg hx] at h; exact absurd h hx
theorem chkP_all : ∀ {l : List (ByteArray × V)} {d : Int}, chkP l d = 0 → ∀ e ∈ l, keyErr e.1 = 0 ∧ chk e.2 d = 0 := by
  intro l
  induction l with
  | nil => intro d _ y hy; cases hy
  | cons x l ih =>
    obtain ⟨key, x⟩ := x
    intro d h y hy
    rw [chkP] at h
    by_cases hk : keyErr key = 0
    · rw [if_pos hk] at h
      by_cases hx : chk x d = 0
      · rw [if_pos hx] at h
        rcases List.mem_cons.1 hy with rfl | hy
        · exact ⟨hk, hx⟩
        · exact ih h y hy
      · rw [if_neg hx] at h; exact absurd h hx
    · rw [if_neg hk] at h; exact absurd h hk
structure RightIs (x : V) (d : Int) : Prop where
  bare : bareB x = true
  s : x.s.size ≤ 4096
  u : x.k = 1 → utf x.s = true
  l : x.l.length ≤ 256
  p : x.p.length ≤ 256
  dd : x.k = 5 ∨ x.k = 6 → d < 8
  rl : chkL x.l (d + 1) = 0
  rp : chkP x.p (d + 1) = 0
  once : onceErr x.p = 0
theorem right_is {x : V} {d : Int} (h : chk x d = 0) : RightIs x d := by
  rw [chk_eq] at h
  by_cases h1 : bareB x = false
  · rw [if_pos h1] at h; cases h
  rw [if_neg h1] at h
  by_cases h2 : ¬ x.s.size ≤ 4096
  · rw [if_pos h2] at h; cases h
  rw [if_neg h2] at h
  by_cases h3 : x.k = 1 ∧ utf x.s = false
  · rw [if_pos h3] at h; cases h
  rw [if_neg h3] at h
  by_cases h4 : ¬ x.l.length ≤ 256
  · rw [if_pos h4] at h; cases h
  rw [if_neg h4] at h
  by_cases h5 : ¬ x.p.length ≤ 256
  · rw [if_pos h5] at h; cases h
  rw [if_neg h5] at h
  by_cases h6 : (x.k = 5 ∨ x.k = 6) ∧ ¬ d < 8
  · rw [if_pos h6] at h; cases h
  rw [if_neg h6] at h
  by_cases h7 : chkL x.l (d + 1) = 0
  · rw [if_pos h7] at h
    by_cases h8 : chkP x.p (d + 1) = 0
    · rw [if_pos h8] at h
      exact ⟨by simpa using h1, by omega, fun hk => by cases hu : utf x.s with | true => rfl | false => exact absurd ⟨hk, hu⟩ h3, by omega, by omega, fun hk => by
        exact Decidable.byContradiction fun hd => h6 ⟨hk, hd⟩, h7, h8, h⟩
    · rw [if_neg h8] at h; exact absurd h h8
  · rw [if_neg h7] at h; exact absurd h h7
theorem may_bf (n : Int) (t : List UInt8) (hn : 1 ≤ n ∧ n ≤ 1000) (ht : t.length ≤ 65536) : M.may (bf n t) = true := by
  obtain ⟨h1, h2⟩ := hn
  have h3 : n ≤ 536870911 := by omega
  simp [M.may, h1, h3, ht]
theorem wrE_one {f : M.Fd} (hm : M.may f = true) (hl : (M.enc1 f).length ≤ 65536) : wrE [f] = .ok (M.enc1 f) := by unfold wrE; rw [wr_one f hm hl]; rfl
theorem enc1_bf (n : Int) (t : List UInt8) (hn : 1 ≤ n ∧ n ≤ 1000) (ht : t.length ≤ 60000) : (M.enc1 (bf n t)).length ≤ 65536 := by
  have h1 := M.vnum_len10 (M.key (bf n t)) (by unfold M.key; simp only; omega)
  have h2 := M.vnum_len10 t.length (by omega)
  rw [M.enc1, List.length_append]
  simp only [M.body, show ¬ (2 : Nat) = 0 by omega, show ¬ (2 : Nat) = 1 by omega, show ¬ (2 : Nat) = 5 by omega, if_false, if_true, List.length_append]
  omega
theorem enc1_num (n : Int) (w c : Nat) (hn : 1 ≤ n ∧ n ≤ 1000) (hw : w = 0 ∨ w = 1) (hc : c < 18446744073709551616) : M.may ⟨n, w, c, []⟩ = true ∧ (M.enc1 ⟨n, w, c, []⟩).length ≤ 65536 := by
  obtain ⟨n1, n2⟩ := hn
  have n3 : n ≤ 536870911 := by omega
  refine ⟨by rcases hw with rfl | rfl <;> simp [M.may, n1, n3], ?_⟩
  have h1 := M.vnum_len10 (M.key ⟨n, w, c, []⟩) (by unfold M.key; simp only; omega)
  have h2 := M.vnum_len10 c hc
  rw [M.enc1, List.length_append]
  rcases hw with rfl | rfl
  · simp only [M.body, if_true]; omega
  · simp only [M.body, show ¬ (1 : Nat) = 0 by omega, if_false, if_true, M.le_len]; omega
theorem wrap64 (n : Int) : 0 ≤ IntKind.u64.wrap n ∧ IntKind.u64.wrap n ≤ 18446744073709551615 := by
  have h : IntKind.u64.wrap n = n % 18446744073709551616 := by
    simp [IntKind.wrap, IntKind.bits, IntKind.signed]
  rw [h]
  omega

theorem keyErr_size {key : ByteArray} (h : keyErr key = 0) : key.size ≤ 4096 := by
  unfold keyErr at h
  by_cases hs : key.size ≤ 4096
  · exact hs
  · rw [if_neg hs] at h; cases h
theorem map_get {α β : Type} {l : List α} {f : α → β} {k : Nat} {r : β} (h : (l.map f)[k]? = some r) : ∃ a, l[k]? = some a ∧ r = f a := by
  rw [List.getElem?_map] at h
  cases ha : l[k]? with
  | none => rw [ha] at h; cases h
  | some a => rw [ha] at h; injection h with h; exact ⟨a, rfl, h.symm⟩
theorem written_step (x : V) (d : Int) (hx : chk x d = 0) (ihl : ∀ a, a ∈ x.l → WrittenC a) (ihp : ∀ e, e ∈ x.p → WPairC e.1 e.2) : WrittenC x := by
  intro w q1 q2 hrep
  have hR := right_is hx
  have hfit := hrep.parts.1
  obtain ⟨a1, c1, rfl, _⟩ := hrep.parts.2.1.form
  obtain ⟨a2, c2, rfl, _⟩ := hrep.parts.2.2.form
  have hk8 : x.k < 8 := by
    have := hR.bare
    unfold bareB at this
    simp only [Bool.and_eq_true, decide_eq_true_eq] at this
    exact this.1.1.1.1.1.1
  have hk0 := hfit.k0
  have hsl : x.s.data.toList.length ≤ 4096 := hR.s
  rw [wmsg_eq]
  have hw := wrap64 x.n
  obtain ⟨xs, hxs⟩ : ∃ xs, xs = x.s.data.toList := ⟨_, rfl⟩
  have hsx : x.s = ⟨xs.toArray⟩ := by rw [hxs]
  rw [← hxs] at hsl ⊢
  by_cases k1 : x.k = 1
  · rw [if_pos k1]
    have h := wrE_one (may_bf 1 xs (by omega) (by omega)) (enc1_bf 1 xs (by omega) (by omega))
    rw [h]
    show Calls Tryz.prog 19 #[.agg (gv x.k x.s x.b x.n x.f _ _)] w _
    rw [k1, hsx]
    exact w_text xs x.b x.n x.f x.l.length x.p.length c1 c2 a1 a2 hsl _ h w
  rw [if_neg k1]
  by_cases k2 : x.k = 2
  · rw [if_pos k2]
    cases hb : x.b
    · have hh := enc1_num 2 0 0 (by omega) (by omega) (by omega)
      have h := wrE_one hh.1 hh.2
      simp only [Bool.false_eq_true, if_false]
      rw [h]
      show Calls Tryz.prog 19 #[.agg (gv x.k x.s x.b x.n x.f _ _)] w _
      rw [k2, hsx, hb]
      exact w_not xs x.b x.n x.f x.l.length x.p.length c1 c2 a1 a2 _ h w
    · have hh := enc1_num 2 0 1 (by omega) (by omega) (by omega)
      have h := wrE_one hh.1 hh.2
      simp only [if_true]
      rw [h]
      show Calls Tryz.prog 19 #[.agg (gv x.k x.s x.b x.n x.f _ _)] w _
      rw [k2, hsx, hb]
      exact w_yes xs x.b x.n x.f x.l.length x.p.length c1 c2 a1 a2 _ h w
  rw [if_neg k2]
  by_cases k3 : x.k = 3
  · rw [if_pos k3]
    have hh := enc1_num 3 0 (IntKind.u64.wrap x.n).toNat (by omega) (by omega) (by omega)
    have h := wrE_one hh.1 hh.2
    rw [h]
    show Calls Tryz.prog 19 #[.agg (gv x.k x.s x.b x.n x.f _ _)] w _
    rw [k3, hsx]
    exact w_int xs x.b x.n x.f x.l.length x.p.length c1 c2 a1 a2 _ rfl hw.1 hw.2 _ h w
  rw [if_neg k3]
  by_cases k4 : x.k = 4
  · rw [if_pos k4]
    have hh := enc1_num 4 1 x.f (by omega) (by omega) hfit.f1
    have h := wrE_one hh.1 hh.2
    rw [h]
    show Calls Tryz.prog 19 #[.agg (gv x.k x.s x.b x.n x.f _ _)] w _
    rw [k4, hsx]
    exact w_float xs x.b x.n x.f x.l.length x.p.length c1 c2 a1 a2 hfit.f1 _ h w
  rw [if_neg k4]
  by_cases k5 : x.k = 5
  · rw [if_pos k5]
    have hl := hR.l
    have h := w_list x a1 a2 c1 c2 k5 (x.l.map wmsg) rfl (short_wL x.l) (by omega) _ rfl w (fun W k r hb hr => by
      obtain ⟨y, hy, rfl⟩ := map_get hr
      have hb' := (al w (.cells (gv 5 x.s x.b x.n x.f (.slice a1 x.l.length c1) (.slice a2 x.p.length c2)) 27)).trans (hb.mono (by simp))
      have hbk : W.heap[w.heap.size]? = some (.cells (cv x (.slice a1 x.l.length c1) (.slice a2 x.p.length c2)) 27 (0, 0)) := (hb.block w.heap.size (by simp)).trans (by rw [cv, k5]; exact blk_new w _)
      exact clo_list x y k w.heap.size (ihl y (List.mem_of_getElem? hy)) W _ _ (At7.box hbk) (hrep.under hb') hy)
    rw [← k5] at h ⊢
    exact h
  rw [if_neg k5]
  by_cases k6 : x.k = 6
  · rw [if_pos k6]
    have hl := hR.p
    have h := w_map x a1 a2 c1 c2 k6 (x.p.map fun e => wpair e.1 e.2) rfl (short_wP x.p) (by omega) _ rfl w (fun W k r hb hr => by
      obtain ⟨y, hy, rfl⟩ := map_get hr
      have hb' := (al w (.cells (gv 6 x.s x.b x.n x.f (.slice a1 x.l.length c1) (.slice a2 x.p.length c2)) 27)).trans (hb.mono (by simp))
      have hbk : W.heap[w.heap.size]? = some (.cells (cv x (.slice a1 x.l.length c1) (.slice a2 x.p.length c2)) 27 (0, 0)) := (hb.block w.heap.size (by simp)).trans (by rw [cv, k6]; exact blk_new w _)
      exact clo_pairs x y k w.heap.size (ihp y (List.mem_of_getElem? hy)) W _ _ (At7.box hbk) (hrep.under hb') hy)
    rw [← k6] at h ⊢
    exact h
  rw [if_neg k6]
  by_cases k7 : x.k = 7
  · rw [if_pos k7]
    have h := wrE_one (may_bf 7 xs (by omega) (by omega)) (enc1_bf 7 xs (by omega) (by omega))
    rw [h]
    show Calls Tryz.prog 19 #[.agg (gv x.k x.s x.b x.n x.f _ _)] w _
    rw [k7, hsx]
    exact w_bytes xs x.b x.n x.f x.l.length x.p.length c1 c2 a1 a2 hsl _ h w
  rw [if_neg k7]
  have kz : x.k = 0 := by omega
  show Calls Tryz.prog 19 #[.agg (gv x.k x.s x.b x.n x.f _ _)] w _
  rw [kz, hsx]
  exact w_none xs x.b x.n x.f x.l.length x.p.length c1 c2 a1 a2 w
theorem written_sized : ∀ (n : Nat) (x : V), SizeOf.sizeOf x ≤ n → Right x → WrittenC x := by
  intro n
  induction n with
  | zero => intro x hx; cases x; simp only [V.mk.sizeOf_spec] at hx; omega
  | succ n ih =>
    rintro x hx ⟨d, hd⟩
    have hR := right_is hd
    exact written_step x d hd (fun a ha => ih a (by have := V.size_l ha; omega) ⟨_, chkL_all hR.rl a ha⟩) (fun e he => by
      obtain ⟨h1, h2⟩ := chkP_all hR.rp e he
      exact wpair_of e.1 e.2 (fun _ => ih e.2 (by have := V.size_p he; omega) ⟨_, h2⟩) (by have := keyErr_size h1; omega))
theorem written_any {x : V} (h : Right x) : WrittenC x := written_sized _ x (Nat.le_refl _) h
theorem wpair_any {key : ByteArray} {x : V} (h : Right x) (hk : key.size ≤ 140737488353000) : WPairC key x := wpair_of key x (fun _ => written_any h) hk
end Go.Proofs.YtnnnnlcpmocnfaaGreatDoor
