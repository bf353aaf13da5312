/- MESSAGES OF VALUES: the document's message, lists and maps, WALKED. -/
import Derived.Test.YtnnnnlcpmocnfaaGreatDoorDm1
import Derived.Test.YtnnnnlcpmocnfaaGreatDoorRread
import Derived.Test.YtnnnnlcpmocnfaaGreatDoorRk6
import Derived.Test.YtnnnnlcpmocnfaaGreatDoorWx
import Derived.Outline
import Derived.WalkLawsBesides
namespace Go.Proofs.YtnnnnlcpmocnfaaGreatDoor
open Go.RowKit
set_option linter.unusedVariables false
set_option linter.unusedSimpArgs false
attribute [local go_sem] run_store_float

def DMsgC (x : V) : Prop := ∀ (w : World) (q1 q2 : Value), Rep Any w q1 q2 x → Calls Tryz.prog 21 #[.agg (cv x q1 q2)] w (DW (wmsg x) w)
def DPairC (key : ByteArray) (x : V) : Prop := ∀ (w : World) (q1 q2 : Value), Rep Any w q1 q2 x → Calls Tryz.prog 29 #[.agg (pv key x q1 q2)] w (DW (wpair key x) w)
theorem joined_next {rs : List Res} {k : Nat} {fs : List M.Fd} {t : List UInt8} (hk : rs[k]? = some (.ok t)) (h : joined (rs.take k) = .ok fs) : joined (rs.take (k + 1)) = .ok (fs ++ [bf 1 t]) := by
  rw [take_get hk, joined_snoc, h]
theorem joined_stop {rs : List Res} {k : Nat} {fs : List M.Fd} {c : Nat} (hk : rs[k]? = some (.error c)) (h : joined (rs.take k) = .ok fs) : joined rs = .error c := by
  have h1 : joined (rs.take (k + 1)) = .error c := by rw [take_get hk, joined_snoc, h]
  have h2 := joined_err _ (rs.drop (k + 1)) h1
  rwa [List.take_append_drop] at h2
theorem cs_bf (n : Int) (t : List UInt8) : (#[.int .i64 n, .int .u8 2, .int .u64 0, .string ⟨t.toArray⟩] : Array Value).toList = fc (bf n t) := rfl
theorem box7g {W : World} {g : Nat} {k n : Int} {s : ByteArray} {b : Bool} {f : Nat} {q1 q2 : Value} (h : W.heap[g]? = some (.cells (gv k s b n f q1 q2) 27 (0, 0))) :
    W.cell? ⟨g, 0, none⟩ = some (.int .u8 k) ∧ W.cell? ⟨g, 5, none⟩ = some q1 ∧ W.cell? ⟨g, 6, none⟩ = some q2 :=
  ⟨cell_of_row W g 0 _ 27 (0, 0) h, cell_of_row W g 5 _ 27 (0, 0) h, cell_of_row W g 6 _ 27 (0, 0) h⟩
theorem errs_ne {c : Nat} (h : ¬ (c : Int) = 0) : ((c : Int) == 0) = false ∧ ((c : Int) != 0) = true := ⟨by simpa using h, by simpa using h⟩

set_option maxRecDepth 100000 in
set_option maxHeartbeats 8000000 in
theorem dm_list (s : ByteArray) (b : Bool) (n : Int) (f : Nat) (l : List V) (a1 a2 : Option Addr) (c1 c2 : Nat) (hn : l.length ≤ 256) (w : World) (hq : RepL Any w (.slice a1 l.length c1) l) (ih : ∀ a, a ∈ l → DMsgC a) :
    Calls Tryz.prog 21 #[.agg (gv 5 s b n f (.slice a1 l.length c1) (.slice a2 0 c2))] w (DW (around 5 (wjoin (l.map wmsg))) w) := by
  obtain ⟨m, hm⟩ : ∃ m, m = l.length := ⟨_, rfl⟩
  obtain ⟨rs, hrs⟩ : ∃ rs, rs = l.map wmsg := ⟨_, rfl⟩
  obtain ⟨R, hR⟩ : ∃ R, R = around 5 (wjoin rs) := ⟨_, rfl⟩
  have hrl : rs.length = m := by rw [hrs, List.length_map, hm]
  have hshort : Short rs := by rw [hrs]; exact short_wL l
  rw [← hrs, ← hR]
  rw [← hm] at hq hn ⊢
  obtain ⟨W0, hW0⟩ : ∃ W0, W0 = w.alloc (.cells (gv 5 s b n f (.slice a1 m c1) (.slice a2 0 c2)) 27) := ⟨_, rfl⟩
  have hb0 : Below w.heap.size w W0 := by rw [hW0]; exact al w _
  have Bx0 := Lib.hid (show W0.heap[w.heap.size]? = some (.cells (gv 5 s b n f (.slice a1 m c1) (.slice a2 0 c2)) 27 (0, 0)) by rw [hW0]; exact blk_new w _)
  have Hq0 := Lib.hid (hq.under hb0)
  have Hlt0 := Lib.hid (show w.heap.size < W0.heap.size by rw [hW0]; simp)
  have HW0 := Lib.hid hW0
  have Hbel0 := Lib.hid hb0
  have Hm := Lib.hid hm
  have Hrs := Lib.hid hrs
  have HR := Lib.hid hR
  have Hrl := Lib.hid hrl
  have Hshort := Lib.hid hshort
  have Ih := Lib.hid ih
  have Hk256 := Lib.hid (show rs.length ≤ 256 by omega)
  have hm63 : m ≤ 9223372036854775807 := by omega
  clear hW0 hb0 hq hm hrs hR hrl hshort ih
  obtain ⟨k0, k5, k6⟩ := box7g Bx0.out
  go_enter Tryz.func21, Tryz.ntmps21
  go_wp2
  rw [← HW0.out]
  go_loopw [6, 69] (fun v i wr => ∃ (k : Nat), i = .int .i64 (k : Int) ∧ k ≤ m ∧ Go.RowKit.Hid (∃ fs, joined (rs.take k) = .ok fs ∧ FRow wr W0.heap.size v fs ∧ Below W0.heap.size W0 wr)) (fun _ i _ => m - (intOf i).toNat)
  case atStart => exact ⟨0, rfl, by omega, [], rfl, FRow.nil _ _, Below.refl _ _⟩
  case round =>
    obtain ⟨k, rfl, hk, hinv⟩ := hrel
    obtain ⟨fs, hj, hrow, hbel⟩ := hinv.out
    have Hj := Lib.hid hj
    have Hrow := Lib.hid hrow
    have HbelW := Lib.hid hbel
    clear hj hrow hbel hinv
    by_cases hlt : k < m
    · obtain ⟨a, ha⟩ := get_at' (l := l) (k := k) (by rw [← Hm.out]; exact hlt)
      obtain ⟨g, o, cc, dd, had, hg, ⟨e0, e1, e2, e3, e4, e5, e6⟩, hrep⟩ := (Hq0.out.under HbelW.out).at ha
      subst had
      obtain ⟨adc, capc, rfl, _⟩ := hrep.parts.2.1.form
      obtain ⟨add, capd, rfl, _⟩ := hrep.parts.2.2.form
      have hk0 : (0 : Int) ≤ (k : Int) := by omega
      have hkn : (k : Int) < (m : Int) := by omega
      obtain ⟨X, hX⟩ : ∃ X, X = wr.alloc (.cells (cv a (.slice adc a.l.length capc) (.slice add a.p.length capd)) 27) := ⟨_, rfl⟩
      have hBX : Below wr.heap.size wr X := by rw [hX]; exact al _ _
      have Hcall := Lib.hid (Ih.out a (List.mem_of_getElem? ha) X _ _ (hrep.under hBX))
      obtain ⟨z0, z1, z2, z3, z4, z5, z6⟩ := (show Box X wr.heap.size a _ _ by rw [hX]; exact Box.new wr a (.slice adc a.l.length capc) (.slice add a.p.length capd)).at
      have hrk : rs[k]? = some (wmsg a) := by rw [Hrs.out, List.getElem?_map, ha]; rfl
      have HX := Lib.hid hX
      have HbX := Lib.hid hBX
      have Hlen := Lib.hid (show fs.length ≤ 3518437208782 by have h1 := joined_len _ _ Hj.out; have h2 := List.length_take_le k rs; have h3 := Hk256.out; omega)
      clear hX hBX ha hrep hg 
      cases hz : wmsg a with
      | error c =>
        have hc := wmsg_err hz
        obtain ⟨hc1, hc2⟩ := errs_ne hc
        rw [hz] at Hcall hrk
        have Hstop := Lib.hid (joined_stop hrk Hj.out)
        have Hcall' := Lib.hid (Hcall.out.mono (R' := DT ⟨#[]⟩ (c : Int) X) fun e w' h => DT.of rfl h)
        clear hz hrk Hcall
        go_wp2_with fail
        rw [← HX.out]
        refine (Hcall'.out).mono ?_
        rintro e w1 ⟨rfl, hb1⟩
        have Hb1 := Lib.hid (HbelW.out.trans ((HbX.out.trans (hb1.mono HbX.out.size)).mono HbelW.out.size))
        clear hb1 z0 z1 z2 z3 z4 z5 z6
        go_wp2
        go_ret2
        exact ⟨by rw [HR.out, wjoin, Hstop.out]; rfl, Hbel0.out.trans (Hb1.out.mono Hbel0.out.size)⟩
      | ok t =>
        rw [hz] at Hcall hrk
        have Hnext := Lib.hid (joined_next hrk Hj.out)
        have Hcall' := Lib.hid (Hcall.out.mono (R' := DT ⟨t.toArray⟩ 0 X) fun e w' h => DT.of rfl h)
        clear hz hrk Hcall
        go_wp2_with fail
        rw [← HX.out]
        refine (Hcall'.out).mono ?_
        rintro e w1 ⟨rfl, hb1⟩
        have hb1' := HbX.out.trans (hb1.mono HbX.out.size)
        have Hb1 := Lib.hid hb1'
        clear hb1 hb1' z0 z1 z2 z3 z4 z5 z6
        go_wp2_with fail
        refine (dbytes_any _ _ _).mono ?_
        rintro e w2 ⟨rfl, hb2⟩
        have Hb2 := Lib.hid (Hb1.out.trans (hb2.mono Hb1.out.size))
        have Hrow2 := Lib.hid (Hrow.out.later Hb2.out)
        have Hs2 := Lib.hid (show W0.heap.size ≤ w2.heap.size from Nat.le_trans HbelW.out.size Hb2.out.size)
        clear hb2
        go_wp2_with (at_builtin; refine wp_app_fd rfl _ _ rfl W0.heap.size _ fs rfl Hrow2.out (bf 1 t) _ (cs_bf 1 t) _ rfl (by simp) Hlen.out Hs2.out ?_)
        intro v3 w3 hrow3 hgr3
        have Hrow3 := Lib.hid hrow3
        have Hb3 := Lib.hid (HbelW.out.trans ((Hb2.out.mono HbelW.out.size).trans (hgr3.below Hs2.out (fun j hj => (Hrow2.out.lt j hj).1))))
        clear hrow3 hgr3
        go_wp2
        go_roundw
        case rel => exact ⟨k + 1, by go_num, by omega, fs ++ [bf 1 t], Hnext.out, Hrow3.out, Hb3.out⟩
        case measure => simp [intOf]; omega
    · have hall : joined rs = .ok fs := by rw [← List.take_of_length_le (i := k) (l := rs) (by have := Hk256.out; have := Hrl.out; omega)]; exact Hj.out
      have hfine := joined_fine rs fs Hshort.out hall
      have Hfl := Lib.hid (show fs.length ≤ 9223372036854775807 by have h1 := joined_len _ _ hall; have h3 := Hk256.out; omega)
      have Hw := Lib.hid (fun (W : World) (h : FRow W W0.heap.size u6 fs) => dwr_row h hfine Hfl.out)
      have HR2 := Lib.hid (show R = around 5 (wrE fs) by rw [HR.out, wjoin, hall])
      have Bxr := Lib.hid ((HbelW.out.block w.heap.size Hlt0.out).trans Bx0.out)
      clear hall hfine
      obtain ⟨y0, y5, y6⟩ := box7g Bxr.out
      obtain ⟨wo, hwo⟩ : ∃ wo, wo = wr := ⟨_, rfl⟩
      obtain ⟨vi, rfl⟩ : ∃ vi, vi = u6 := ⟨_, rfl⟩
      go_wp2
      go_loopw [6, 90] (fun v i W' => v = vi ∧ i = .int .i64 0 ∧ W' = wo) (fun _ i _ => 0)
      case atStart => exact ⟨rfl, rfl, hwo.symm⟩
      case round =>
        obtain ⟨rfl, rfl, hww⟩ := hrel
        obtain rfl := hww.trans hwo
        clear hww hwo
        cases hz : wrE fs with
        | error c =>
          have hc : ¬ (c : Int) = 0 := by
            rcases wrE_cases fs with ⟨e, he, h1, h2⟩ | ⟨h1, h2, _⟩
            · rw [h2] at hz; injection hz with hz; omega
            · rw [h2] at hz; cases hz
          obtain ⟨hc1, hc2⟩ := errs_ne hc
          rw [hz] at HR2 Hw
          have Hw' := Lib.hid ((Hw.out _ Hrow.out).mono (R' := DT ⟨#[]⟩ (c : Int) _) fun e w' h => DT.of rfl h)
          clear hz Hw
          go_wp2_with fail
          refine (Hw'.out).mono ?_
          rintro e w1 ⟨rfl, hb1⟩
          have Hb1 := Lib.hid (HbelW.out.trans (hb1.mono HbelW.out.size))
          clear hb1
          go_wp2
          go_ret2
          exact ⟨by rw [HR2.out]; rfl, Hbel0.out.trans (Hb1.out.mono Hbel0.out.size)⟩
        | ok t =>
          rw [hz] at HR2 Hw
          have Hw' := Lib.hid ((Hw.out _ Hrow.out).mono (R' := DT ⟨t.toArray⟩ 0 _) fun e w' h => DT.of rfl h)
          have ht : t.length ≤ 65536 := wrE_short hz
          obtain ⟨S, E, hSE⟩ := dtup_form (wrE [bf 5 t])
          have hlast : ∀ (W : World) (v : Value), FRow W W0.heap.size v [bf 5 t] → Calls Tryz.prog 56 #[v] W (DT S E W) := fun W v h => (dwr_row h (one_fine (fine_bf 5 t (by omega) (by omega))) (by simp)).mono fun _ _ => DT.of hSE
          have Hlast := Lib.hid hlast
          have HSE := Lib.hid hSE
          have HR3 := Lib.hid (show R = wrE [bf 5 t] from HR2.out)
          clear hz Hw hlast hSE ht HR2
          go_wp2_with fail
          refine (Hw'.out).mono ?_
          rintro e w1 ⟨rfl, hb1⟩
          have Hb1 := Lib.hid (HbelW.out.trans (hb1.mono HbelW.out.size))
          have Bx1 := Lib.hid ((Hb1.out.block w.heap.size Hlt0.out).trans Bx0.out)
          clear hb1 y0 y5 y6
          obtain ⟨y0, y5, y6⟩ := box7g Bx1.out
          go_wp2_with fail
          refine (dbytes_any _ _ _).mono ?_
          rintro e w2 ⟨rfl, hb2⟩
          have Hb2 := Lib.hid (Hb1.out.trans (hb2.mono Hb1.out.size))
          clear hb2 y0 y5 y6
          go_wp2_with (at_builtin; refine wp_app_fd rfl _ _ rfl W0.heap.size _ [] rfl (FRow.nil _ _) (bf 5 t) _ (cs_bf 5 t) _ rfl (by simp) (by simp) Hb2.out.size ?_)
          intro v3 w3 hrow3 hgr3
          have Hrow3 := Lib.hid (show FRow w3 W0.heap.size v3 [bf 5 t] from hrow3)
          have Hb3 := Lib.hid (Hb2.out.trans (hgr3.below Hb2.out.size (fun j hj => by simp [Value.ownBlock] at hj)))
          clear hrow3 hgr3
          go_wp2_with fail
          refine (Hlast.out _ _ Hrow3.out).mono ?_
          rintro e w4 ⟨rfl, hb4⟩
          have Hb4 := Lib.hid (Hb3.out.trans (hb4.mono Hb3.out.size))
          clear hb4
          go_wp2
          go_ret2
          rw [HR3.out]
          exact DT.to HSE.out (Hbel0.out.trans (Hb4.out.mono Hbel0.out.size))

set_option maxRecDepth 100000 in
set_option maxHeartbeats 8000000 in
theorem dm_map (s : ByteArray) (b : Bool) (n : Int) (f : Nat) (l : List (ByteArray × V)) (a1 a2 : Option Addr) (c1 c2 : Nat) (hn : l.length ≤ 256) (w : World) (hq : RepP Any w (.slice a2 l.length c2) l) (ih : ∀ a, a ∈ l → DPairC a.1 a.2) :
    Calls Tryz.prog 21 #[.agg (gv 6 s b n f (.slice a1 0 c1) (.slice a2 l.length c2))] w (DW (around 6 (wjoin (l.map fun e => wpair e.1 e.2))) w) := by
  obtain ⟨m, hm⟩ : ∃ m, m = l.length := ⟨_, rfl⟩
  obtain ⟨rs, hrs⟩ : ∃ rs, rs = l.map fun e => wpair e.1 e.2 := ⟨_, rfl⟩
  obtain ⟨R, hR⟩ : ∃ R, R = around 6 (wjoin rs) := ⟨_, rfl⟩
  have hrl : rs.length = m := by rw [hrs, List.length_map, hm]
  have hshort : Short rs := by rw [hrs]; exact short_wP l
  rw [← hrs, ← hR]
  rw [← hm] at hq hn ⊢
  obtain ⟨W0, hW0⟩ : ∃ W0, W0 = w.alloc (.cells (gv 6 s b n f (.slice a1 0 c1) (.slice a2 m c2)) 27) := ⟨_, rfl⟩
  have hb0 : Below w.heap.size w W0 := by rw [hW0]; exact al w _
  have Bx0 := Lib.hid (show W0.heap[w.heap.size]? = some (.cells (gv 6 s b n f (.slice a1 0 c1) (.slice a2 m c2)) 27 (0, 0)) by rw [hW0]; exact blk_new w _)
  have Hq0 := Lib.hid (hq.under hb0)
  have Hlt0 := Lib.hid (show w.heap.size < W0.heap.size by rw [hW0]; simp)
  have HW0 := Lib.hid hW0
  have Hbel0 := Lib.hid hb0
  have Hm := Lib.hid hm
  have Hrs := Lib.hid hrs
  have HR := Lib.hid hR
  have Hrl := Lib.hid hrl
  have Hshort := Lib.hid hshort
  have Ih := Lib.hid ih
  have Hk256 := Lib.hid (show rs.length ≤ 256 by omega)
  have hm63 : m ≤ 9223372036854775807 := by omega
  clear hW0 hb0 hq hm hrs hR hrl hshort ih
  obtain ⟨k0, k5, k6⟩ := box7g Bx0.out
  go_enter Tryz.func21, Tryz.ntmps21
  go_wp2
  rw [← HW0.out]
  go_loopw [6, 69] (fun v i W' => v = .slice none 0 0 ∧ i = .int .i64 0 ∧ W' = W0) (fun _ i _ => 0)
  case atStart => exact ⟨rfl, rfl, rfl⟩
  case round =>
   obtain ⟨rfl, rfl, hwr⟩ := hrel
   rw [hwr]
   clear hwr
   go_wp2
   go_loopw [6, 90] (fun v i wr => ∃ (k : Nat), i = .int .i64 (k : Int) ∧ k ≤ m ∧ Go.RowKit.Hid (∃ fs, joined (rs.take k) = .ok fs ∧ FRow wr W0.heap.size v fs ∧ Below W0.heap.size W0 wr)) (fun _ i _ => m - (intOf i).toNat)
   case atStart => exact ⟨0, rfl, by omega, [], rfl, FRow.nil _ _, Below.refl _ _⟩
   case round =>
     obtain ⟨k, rfl, hk, hinv⟩ := hrel
     obtain ⟨fs, hj, hrow, hbel⟩ := hinv.out
     have Hj := Lib.hid hj
     have Hrow := Lib.hid hrow
     have HbelW := Lib.hid hbel
     clear hj hrow hbel hinv
     by_cases hlt : k < m
     · obtain ⟨a, ha⟩ := get_at' (l := l) (k := k) (by rw [← Hm.out]; exact hlt)
       obtain ⟨g, o, cc, dd, had, hg, ⟨e0, e1, e2, e3, e4, e5, e6, e7⟩, hky, hrep⟩ := (Hq0.out.under HbelW.out).at ha
       subst had
       obtain ⟨adc, capc, rfl, _⟩ := hrep.parts.2.1.form
       obtain ⟨add, capd, rfl, _⟩ := hrep.parts.2.2.form
       have hk0 : (0 : Int) ≤ (k : Int) := by omega
       have hkn : (k : Int) < (m : Int) := by omega
       obtain ⟨X, hX⟩ : ∃ X, X = wr.alloc (.cells (pv a.1 a.2 (.slice adc a.2.l.length capc) (.slice add a.2.p.length capd)) 29) := ⟨_, rfl⟩
       have hBX : Below wr.heap.size wr X := by rw [hX]; exact al _ _
       have Hcall := Lib.hid (Ih.out a (List.mem_of_getElem? ha) X _ _ (hrep.under hBX))
       obtain ⟨z0, z1, z2, z3, z4, z5, z6, z7⟩ := (show At8 X wr.heap.size 0 a.1 a.2 (.slice adc a.2.l.length capc) (.slice add a.2.p.length capd) from At8.box (t := 29) (by rw [hX]; exact blk_new wr _))
       simp only [Nat.zero_add] at z0 z1 z2 z3 z4 z5 z6 z7
       have hrk : rs[k]? = some (wpair a.1 a.2) := by rw [Hrs.out, List.getElem?_map, ha]; rfl
       have HX := Lib.hid hX
       have HbX := Lib.hid hBX
       have Hlen := Lib.hid (show fs.length ≤ 3518437208782 by have h1 := joined_len _ _ Hj.out; have h2 := List.length_take_le k rs; have h3 := Hk256.out; omega)
       clear hX hBX ha hrep hg hky
       cases hz : wpair a.1 a.2 with
       | error c =>
         have hc := wpair_err hz
         obtain ⟨hc1, hc2⟩ := errs_ne hc
         rw [hz] at Hcall hrk
         have Hstop := Lib.hid (joined_stop hrk Hj.out)
         have Hcall' := Lib.hid (Hcall.out.mono (R' := DT ⟨#[]⟩ (c : Int) X) fun e w' h => DT.of rfl h)
         clear hz hrk Hcall
         go_wp2_with fail
         rw [← HX.out]
         refine (Hcall'.out).mono ?_
         rintro e w1 ⟨rfl, hb1⟩
         have Hb1 := Lib.hid (HbelW.out.trans ((HbX.out.trans (hb1.mono HbX.out.size)).mono HbelW.out.size))
         clear hb1 z0 z1 z2 z3 z4 z5 z6 z7
         go_wp2
         go_ret2
         exact ⟨by rw [HR.out, wjoin, Hstop.out]; rfl, Hbel0.out.trans (Hb1.out.mono Hbel0.out.size)⟩
       | ok t =>
         rw [hz] at Hcall hrk
         have Hnext := Lib.hid (joined_next hrk Hj.out)
         have Hcall' := Lib.hid (Hcall.out.mono (R' := DT ⟨t.toArray⟩ 0 X) fun e w' h => DT.of rfl h)
         clear hz hrk Hcall
         go_wp2_with fail
         rw [← HX.out]
         refine (Hcall'.out).mono ?_
         rintro e w1 ⟨rfl, hb1⟩
         have hb1' := HbX.out.trans (hb1.mono HbX.out.size)
         have Hb1 := Lib.hid hb1'
         clear hb1 hb1' z0 z1 z2 z3 z4 z5 z6 z7
         go_wp2_with fail
         refine (dbytes_any _ _ _).mono ?_
         rintro e w2 ⟨rfl, hb2⟩
         have Hb2 := Lib.hid (Hb1.out.trans (hb2.mono Hb1.out.size))
         have Hrow2 := Lib.hid (Hrow.out.later Hb2.out)
         have Hs2 := Lib.hid (show W0.heap.size ≤ w2.heap.size from Nat.le_trans HbelW.out.size Hb2.out.size)
         clear hb2
         go_wp2_with (at_builtin; refine wp_app_fd rfl _ _ rfl W0.heap.size _ fs rfl Hrow2.out (bf 1 t) _ (cs_bf 1 t) _ rfl (by simp) Hlen.out Hs2.out ?_)
         intro v3 w3 hrow3 hgr3
         have Hrow3 := Lib.hid hrow3
         have Hb3 := Lib.hid (HbelW.out.trans ((Hb2.out.mono HbelW.out.size).trans (hgr3.below Hs2.out (fun j hj => (Hrow2.out.lt j hj).1))))
         clear hrow3 hgr3
         go_wp2
         go_roundw
         case rel => exact ⟨k + 1, by go_num, by omega, fs ++ [bf 1 t], Hnext.out, Hrow3.out, Hb3.out⟩
         case measure => simp [intOf]; omega
     · have hall : joined rs = .ok fs := by rw [← List.take_of_length_le (i := k) (l := rs) (by have := Hk256.out; have := Hrl.out; omega)]; exact Hj.out
       have hfine := joined_fine rs fs Hshort.out hall
       have Hfl := Lib.hid (show fs.length ≤ 9223372036854775807 by have h1 := joined_len _ _ hall; have h3 := Hk256.out; omega)
       have Hw := Lib.hid (fun (W : World) (h : FRow W W0.heap.size u6 fs) => dwr_row h hfine Hfl.out)
       have HR2 := Lib.hid (show R = around 6 (wrE fs) by rw [HR.out, wjoin, hall])
       have Bxr := Lib.hid ((HbelW.out.block w.heap.size Hlt0.out).trans Bx0.out)
       clear hall hfine
       obtain ⟨y0, y5, y6⟩ := box7g Bxr.out
       obtain ⟨wo, hwo⟩ : ∃ wo, wo = wr := ⟨_, rfl⟩
       obtain ⟨vi, rfl⟩ : ∃ vi, vi = u6 := ⟨_, rfl⟩
       clear hwo
       cases hz : wrE fs with
       | error c =>
         have hc : ¬ (c : Int) = 0 := by
           rcases wrE_cases fs with ⟨e, he, h1, h2⟩ | ⟨h1, h2, _⟩
           · rw [h2] at hz; injection hz with hz; omega
           · rw [h2] at hz; cases hz
         obtain ⟨hc1, hc2⟩ := errs_ne hc
         rw [hz] at HR2 Hw
         have Hw' := Lib.hid ((Hw.out _ Hrow.out).mono (R' := DT ⟨#[]⟩ (c : Int) _) fun e w' h => DT.of rfl h)
         clear hz Hw
         go_wp2_with fail
         refine (Hw'.out).mono ?_
         rintro e w1 ⟨rfl, hb1⟩
         have Hb1 := Lib.hid (HbelW.out.trans (hb1.mono HbelW.out.size))
         clear hb1
         go_wp2
         go_ret2
         exact ⟨by rw [HR2.out]; rfl, Hbel0.out.trans (Hb1.out.mono Hbel0.out.size)⟩
       | ok t =>
         rw [hz] at HR2 Hw
         have Hw' := Lib.hid ((Hw.out _ Hrow.out).mono (R' := DT ⟨t.toArray⟩ 0 _) fun e w' h => DT.of rfl h)
         have ht : t.length ≤ 65536 := wrE_short hz
         obtain ⟨S, E, hSE⟩ := dtup_form (wrE [bf 6 t])
         have hlast : ∀ (W : World) (v : Value), FRow W W0.heap.size v [bf 6 t] → Calls Tryz.prog 56 #[v] W (DT S E W) := fun W v h => (dwr_row h (one_fine (fine_bf 6 t (by omega) (by omega))) (by simp)).mono fun _ _ => DT.of hSE
         have Hlast := Lib.hid hlast
         have HSE := Lib.hid hSE
         have HR3 := Lib.hid (show R = wrE [bf 6 t] from HR2.out)
         clear hz Hw hlast hSE ht HR2
         go_wp2_with fail
         refine (Hw'.out).mono ?_
         rintro e w1 ⟨rfl, hb1⟩
         have Hb1 := Lib.hid (HbelW.out.trans (hb1.mono HbelW.out.size))
         have Bx1 := Lib.hid ((Hb1.out.block w.heap.size Hlt0.out).trans Bx0.out)
         clear hb1 y0 y5 y6
         obtain ⟨y0, y5, y6⟩ := box7g Bx1.out
         go_wp2_with fail
         refine (dbytes_any _ _ _).mono ?_
         rintro e w2 ⟨rfl, hb2⟩
         have Hb2 := Lib.hid (Hb1.out.trans (hb2.mono Hb1.out.size))
         clear hb2 y0 y5 y6
         go_wp2_with (at_builtin; refine wp_app_fd rfl _ _ rfl W0.heap.size _ [] rfl (FRow.nil _ _) (bf 6 t) _ (cs_bf 6 t) _ rfl (by simp) (by simp) Hb2.out.size ?_)
         intro v3 w3 hrow3 hgr3
         have Hrow3 := Lib.hid (show FRow w3 W0.heap.size v3 [bf 6 t] from hrow3)
         have Hb3 := Lib.hid (Hb2.out.trans (hgr3.below Hb2.out.size (fun j hj => by simp [Value.ownBlock] at hj)))
         clear hrow3 hgr3
         go_wp2_with fail
         refine (Hlast.out _ _ Hrow3.out).mono ?_
         rintro e w4 ⟨rfl, hb4⟩
         have Hb4 := Lib.hid (Hb3.out.trans (hb4.mono Hb3.out.size))
         clear hb4
         go_wp2
         go_ret2
         rw [HR3.out]
         exact DT.to HSE.out (Hbel0.out.trans (Hb4.out.mono Hbel0.out.size))
end Go.Proofs.YtnnnnlcpmocnfaaGreatDoor
