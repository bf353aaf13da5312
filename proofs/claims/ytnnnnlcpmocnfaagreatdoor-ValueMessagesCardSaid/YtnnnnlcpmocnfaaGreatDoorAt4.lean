/- THE WALKS OVER Get, Put, Drop, the document's own. -/
import Derived.Test.YtnnnnlcpmocnfaaGreatDoorAt3
import Derived.Test.YtnnnnlcpmocnfaaGreatDoorCp5
import Derived.Deep.RegionHeld3
import Derived.Deep.RegionLaw
import Derived.StillTailTactics
import Derived.WalkLawsBesides
import Derived.Outline
namespace Go.Proofs.YtnnnnlcpmocnfaaGreatDoor
open Go.RowKit
set_option linter.unusedVariables false
set_option linter.unusedSimpArgs false
attribute [local go_sem] run_store_float


/-- where Get stands -/
structure GInv26 (l : List (ByteArray × V)) (key : ByteArray) (w : World) (k : Nat) (wr : World) : Prop where
  res : wr.heap[w.heap.size]? = some (.cells #[.int .u8 0, .string ⟨#[]⟩, .bool false, .int .i64 0, .float .f64 0, .slice none 0 0, .slice none 0 0] 27 (0, 0))
  no : ∀ j b, j < k → l[j]? = some b → b.1 ≠ key
  bel : Below w.heap.size w wr
set_option maxRecDepth 100000 in
set_option maxHeartbeats 8000000 in
theorem rput_any : PutC 66 := by
  intro w q l key x q1 q2 hq h112 hkey hx
  obtain ⟨adc, capc, rfl, _⟩ := hx.parts.2.1.form
  obtain ⟨add, capd, rfl, _⟩ := hx.parts.2.2.form
  obtain ⟨ad, cap, rfl, hl⟩ := hq.form
  obtain ⟨W, hW⟩ : ∃ W, W = w.alloc (.cells (cv x (.slice adc x.l.length capc) (.slice add x.p.length capd)) 27) := ⟨_, rfl⟩
  have hb0 : Below w.heap.size w W := by rw [hW]; exact (Below.refl _ _).alloc (Nat.le_refl _) _
  have hbox : W.heap[w.heap.size]? = some (.cells (cv x (.slice adc x.l.length capc) (.slice add x.p.length capd)) 27 (0, 0)) := by rw [hW]; exact blk_new w _
  have Hcall := Lib.hid (rcopyPairs_any l W _ (hq.under hb0) h112)
  have Hx := Lib.hid (hx.under hb0)
  have Hbox := Lib.hid hbox
  have Hb0 := Lib.hid hb0
  have HW := Lib.hid hW
  have H112 := Lib.hid h112
  have Hkey := Lib.hid hkey
  clear hW hb0 hbox hq hx h112 hkey hl
  go_enter Tryz.func66, Tryz.ntmps66
  go_wp2_with fail
  rw [← HW.out]
  refine (Hcall.out).mono ?_
  rintro e w1 ⟨v, es, rfl, hrow, hes, hb1⟩
  obtain ⟨adv, capv, rfl⟩ := hrow.form
  obtain ⟨n, hn⟩ : ∃ n, n = es.length := ⟨_, rfl⟩
  rw [← hn] at hrow ⊢
  have hl' : l.length = n := by rw [hn, ← hes]; simp
  have hn63 : n ≤ 9223372036854775807 := by have := H112.out; omega
  have Hrow := Lib.hid hrow
  have Hes := Lib.hid hes
  have Hn := Lib.hid hn
  have Hb1 := Lib.hid hb1
  have Hbel := Lib.hid (Hb0.out.trans (hb1.mono Hb0.out.size))
  have Hx1 := Lib.hid (Hx.out.under hb1)
  have Hbox1 := Lib.hid ((hb1.block _ (lt_of_block Hbox.out)).trans Hbox.out)
  have Hbase := Lib.hid (show w.heap.size + 1 ≤ W.heap.size from lt_of_block Hbox.out)
  clear hrow hes hn hb1 hl'
  go_wp2
  go_loop [13] (fun i => ∃ (k : Nat), i = .int .i64 (k : Int) ∧ k ≤ n ∧ Go.RowKit.Hid (∀ (j : Nat) b, j < k → l[j]? = some b → b.1 ≠ key)) (fun i => n - (intOf i).toNat)
  case atStart => exact ⟨0, rfl, by omega, fun j b hj => absurd hj (by omega)⟩
  case round =>
    obtain ⟨k, rfl, hk, hno⟩ := hrel
    have Hno := Lib.hid hno.out
    clear hno
    obtain ⟨b0, b1, b2, b3, b4, b5, b6⟩ := At7.box Hbox1.out
    simp only [Nat.zero_add] at b0 b1 b2 b3 b4 b5 b6
    by_cases hlt : k < n
    · obtain ⟨e, he⟩ := get_at' (l := es) (k := k) (by rw [← Hn.out]; exact hlt)
      obtain ⟨g, cap', hv, hgb, hgl⟩ := Hrow.out.own (List.ne_nil_of_mem (List.mem_of_getElem? he))
      injection hv with hv1 hv2 hv3
      subst hv1
      have hla : l[k]? = some (kv e) := by rw [← Hes.out, List.getElem?_map, he]; rfl
      have hk0 : (0 : Int) ≤ (k : Int) := by omega
      have hkn : (k : Int) < (n : Int) := by omega
      have hcell : ∀ j u, j < 8 → (pc e)[j]? = some u → w1.cell? ⟨g, k * 8 + j, none⟩ = some u := fun j u hj hu => by
        have := World.ownsRow.cells Hrow.out.row (g := g) rfl (k * 8 + j) u (by rw [fm_at pc_len es k e he j hj]; exact hu)
        rwa [show (⟨g, 0, none⟩ : Addr).add (k * 8 + j) = ⟨g, k * 8 + j, none⟩ by unfold Addr.add; split <;> simp_all] at this
      have c0 : w1.cell? ⟨g, k * 8, none⟩ = some (.string e.1) := hcell 0 _ (by omega) rfl
      have Hcell := Lib.hid hcell
      have He := Lib.hid he
      have Hla := Lib.hid hla
      have Hgl := Lib.hid hgl
      have Hgb := Lib.hid (Nat.le_trans (Nat.le_of_succ_le Hbase.out) hgb)
      clear hcell he hla hgl hgb hv2 hv3
      by_cases hkk : e.1 = key
      · have hs := str_is hkk
        have hput := putIn_at (v := x) Hla.out hkk Hno.out
        have Hput := Lib.hid hput
        clear hput hkk
        go_wp2_with fail
        refine (rcopy_any x _ _ _ Hx1.out).mono ?_
        rintro e' w2 ⟨r1, r2, rfl, hr2, hb2⟩
        obtain ⟨u1, v1, rfl, _⟩ := hr2.parts.2.1.form
        obtain ⟨u2, v2, rfl, _⟩ := hr2.parts.2.2.form
        have hrow2 := Hrow.out.under hb2
        have far : Rep (Far w2 W.heap.size (some g)) w2 (.slice u1 x.l.length v1) (.slice u2 x.p.length v2) x := hr2.keep (Kept.of_below (Below.refl _ _) _) fun j hj _ => ⟨Nat.le_trans Hb1.out.size hj.1, (fun e => by injection e with e; have := Hgl.out; have hj' : w1.heap.size ≤ j := hj.1; omega), hj.2⟩
        have hst := PRow.store (k := k) (e := e) Hn.out (hrow2.mono (base' := w.heap.size) (by have := Hbase.out; omega)) He.out (far.keep (Kept.of_below (Below.refl _ _) _) fun j hj _ => ⟨by have := Hbase.out; have h1 := hj.1; omega, hj.2⟩)
        have cell2 : ∀ j u, j < 8 → (pc e)[j]? = some u → w2.cell? ⟨g, k * 8 + j, none⟩ = some u := fun j u hj hu => (hb2.cell (p := ⟨g, k * 8 + j, none⟩) Hgl.out).trans (Hcell.out j u hj hu)
        have free2 : ∀ j, w2.frozen? ⟨g, j, none⟩ = false := fun j => World.ownsRow.frozenAt (by have := hrow2.row; rw [← Hn.out] at this; exact this) j
        have d1 := cell2 1 _ (by omega) rfl
        have d2 := cell2 2 _ (by omega) rfl
        have d3 := cell2 3 _ (by omega) rfl
        have d4 := cell2 4 _ (by omega) rfl
        have d5 := cell2 5 _ (by omega) rfl
        have d6 := cell2 6 _ (by omega) rfl
        have d7 := cell2 7 _ (by omega) rfl
        have f1 := free2 (k * 8 + 1)
        have f2 := free2 (k * 8 + 2)
        have f3 := free2 (k * 8 + 3)
        have f4 := free2 (k * 8 + 4)
        have f5 := free2 (k * 8 + 5)
        have f6 := free2 (k * 8 + 6)
        have f7 := free2 (k * 8 + 7)
        have Hst := Lib.hid hst
        have Hb2 := Lib.hid hb2
        clear hst cell2 free2 hrow2 far hr2 hb2
        go_wp2
        go_ret
        exact ⟨_, _, rfl, Hst.out, by rw [kv_set, Hes.out, Hput.out]; rfl, ((((((((Hbel.out.trans (Hb2.out.mono Hbel.out.size)).setCell Hgb.out _).setCell Hgb.out _).setCell Hgb.out _).setCell Hgb.out _).setCell Hgb.out _).setCell Hgb.out _).setCell Hgb.out _)⟩
      · have hs := str_not hkk
        have hno : ∀ (j : Nat) b, j < k + 1 → l[j]? = some b → b.1 ≠ key := fun j b hj hb => by
          by_cases ej : j = k
          · subst ej; rw [Hla.out] at hb; exact Option.some.inj hb ▸ hkk
          · exact Hno.out j b (by omega) hb
        have Hno2 := Lib.hid hno
        clear hno hkk
        go_wp2
        go_round
        case rel => exact ⟨k + 1, by go_num, by omega, Hno2.out⟩
        case measure => simp [intOf]; omega
    · have hll : es.length = l.length := by rw [← Hes.out]; simp
      have hput : putIn l key x = l ++ [(key, x)] := putIn_no fun j b hb => Hno.out j b (by have := lt_of_get hb; have h1 := Hn.out; omega) hb
      have Hput := Lib.hid hput
      have Hlen := Lib.hid (show es.length * 112 ≤ 140737488353100 by have := H112.out; omega)
      clear hll
      clear hput
      go_wp2_with fail
      refine (rcopy_any x _ _ _ Hx1.out).mono ?_
      rintro e w2 ⟨r1, r2, rfl, hr2, hb2⟩
      have Hr2 := Lib.hid hr2
      have Hb2 := Lib.hid hb2
      have Hrow' := Lib.hid (show PRow w1 W.heap.size (.slice adv es.length capv) es by rw [← Hn.out]; exact Hrow.out)
      clear hr2 hb2
      go_wp2_with (at_builtin; refine wp_app_p rfl _ _ rfl W.heap.size _ es (by rw [Hn.out]; rfl) (Hrow'.out.under Hb2.out) key x r1 r2 _ rfl Hkey.out (far_newP' (w0 := w1) Hrow'.out Hr2.out Hb1.out.size) _ rfl rfl Hlen.out (Nat.le_trans Hb1.out.size Hb2.out.size) ?_)
      intro v3 w3 hrow3 hgr3
      have Hrow3 := Lib.hid hrow3
      have Hb3 := Lib.hid ((Hbel.out.trans (Hb2.out.mono Hbel.out.size)).trans (hgr3.below (by have := Hbel.out.size; have := Hb2.out.size; omega) fun k hk => by have h1 := (Hrow'.out.lt k hk).1; have := Hbase.out; omega))
      clear hrow3 hgr3
      go_wp2
      go_ret
      exact ⟨_, _, rfl, Hrow3.out.mono (by have := Hbase.out; omega), by rw [Hput.out, List.map_append, Hes.out]; rfl, Hb3.out⟩

/-- where the document's Drop stands, behind its copy w1 -/
structure RdInv (l : List (ByteArray × V)) (key : ByteArray) (w w1 : World) (k : Nat) (v : Value) (es : List (ByteArray × V × Value × Value)) (wr : World) : Prop where
  row : PRow wr w.heap.size v es
  far : ∀ g, v.ownBlock = some g → w1.heap.size ≤ g
  eq : es.map kv = dropOf (l.take k) key
  bel : Below w1.heap.size w1 wr
end Go.Proofs.YtnnnnlcpmocnfaaGreatDoor
