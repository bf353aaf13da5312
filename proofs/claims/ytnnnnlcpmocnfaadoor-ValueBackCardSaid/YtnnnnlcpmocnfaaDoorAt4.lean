/- THE WALKS OVER Get, Put, Drop, the document's own. -/
import Derived.Test.YtnnnnlcpmocnfaaDoorAt3
import Derived.Test.YtnnnnlcpmocnfaaDoorCp5
import Derived.Deep.RegionHeld3
import Derived.Deep.RegionLaw
import Derived.StillTailTactics
import Derived.WalkLawsBesides
import Derived.Outline
namespace Go.Proofs.YtnnnnlcpmocnfaaDoor
open Go.RowKit
set_option linter.unusedVariables false
set_option linter.unusedSimpArgs false
attribute [local go_sem] run_store_float


/-- where Get stands -/
structure GInv26 (l : List (ByteArray × V)) (key : ByteArray) (w : World) (k : Nat) (wr : World) : Prop where
  res : wr.heap[w.heap.size]? = some (.cells #[.int .u8 0, .string ⟨#[]⟩, .bool false, .int .i64 0, .float .f64 0, .slice none 0 0, .slice none 0 0] 27 (0, 0))
  no : ∀ j b, j < k → l[j]? = some b → b.1 ≠ key
  bel : Below w.heap.size w wr
set_option maxRecDepth 100000 in
set_option maxHeartbeats 8000000 in
theorem rget_any : GetC 26 := by
  intro w q l key hq hkey
  obtain ⟨ad, cap, rfl, hl⟩ := hq.form
  obtain ⟨n, hn⟩ : ∃ n, n = l.length := ⟨_, rfl⟩
  rw [← hn] at hq hl ⊢
  have Hn := Lib.hid hn
  have Hq := Lib.hid hq
  clear hn hq
  go_enter Tryd.func26, Tryd.ntmps26
  go_wp2
  go_loopw [10] (fun i wr => ∃ (k : Nat), i = .int .i64 (k : Int) ∧ k ≤ n ∧ Go.RowKit.Hid (GInv26 l key w k wr)) (fun i _ => n - (intOf i).toNat)
  case atStart => exact ⟨0, rfl, by omega, ⟨blk_new w _, fun j b hj => absurd hj (by omega), (Below.refl _ _).alloc (Nat.le_refl _) _⟩⟩
  case round =>
    obtain ⟨k, rfl, hk, hinv⟩ := hrel
    have Hinv := Lib.hid hinv.out
    clear hinv
    by_cases hlt : k < n
    · obtain ⟨a, ha⟩ := get_at' (l := l) (k := k) (by rw [← Hn.out]; exact hlt)
      obtain ⟨g, o, c, d, rfl, hg, ⟨c0, c1, c2, c3, c4, c5, c6, c7⟩, hky, hrep⟩ := (Hq.out.under Hinv.out.bel).at ha
      obtain ⟨adc, capc, rfl, _⟩ := hrep.parts.2.1.form
      obtain ⟨add, capd, rfl, _⟩ := hrep.parts.2.2.form
      have hk0 : (0 : Int) ≤ (k : Int) := by omega
      have hkn : (k : Int) < (n : Int) := by omega
      obtain ⟨W, hW⟩ : ∃ W, W = wr.alloc (.cells (pv a.1 a.2 (.slice adc a.2.l.length capc) (.slice add a.2.p.length capd)) 51) := ⟨_, rfl⟩
      have hBW : Below wr.heap.size wr W := by rw [hW]; exact (Below.refl _ _).alloc (Nat.le_refl _) _
      have Hrep := Lib.hid (hrep.under hBW)
      have Hres := Lib.hid ((hBW.block _ (lt_of_block Hinv.out.res)).trans Hinv.out.res)
      have Hbel := Lib.hid (Hinv.out.bel.trans (hBW.mono Hinv.out.bel.size))
      have Hlt := Lib.hid (show w.heap.size < W.heap.size from Nat.lt_of_lt_of_le (lt_of_block Hinv.out.res) hBW.size)
      have HW := Lib.hid hW
      have Ha := Lib.hid ha
      clear hW ha hrep hg hBW
      by_cases hkk : a.1 = key
      · have hs := str_is hkk
        have hget := getOr_at Ha.out hkk Hinv.out.no
        have Hget := Lib.hid hget
        clear hget hkk
        go_wp2_with fail
        rw [← HW.out]
        refine (rcopy_any a.2 _ _ _ Hrep.out).mono ?_
        rintro e w1 ⟨r1, r2, rfl, hr1, hb1⟩
        obtain ⟨u1, v1, rfl, _⟩ := hr1.parts.2.1.form
        obtain ⟨u2, v2, rfl, _⟩ := hr1.parts.2.2.form
        have hres1 := (hb1.block _ Hlt.out).trans Hres.out
        obtain ⟨⟨h0, h1, h2, h3, h4, h5, h6⟩, g0, g1, g2, g3, g4, g5, g6⟩ := zero_box hres1
        have Hr1 := Lib.hid hr1
        have Hb1 := Lib.hid hb1
        clear hr1 hb1 hres1
        go_wp2
        refine bodyPost_ret (v := .tuple #[.agg (cv a.2 (.slice u1 a.2.l.length v1) (.slice u2 a.2.p.length v2)), .bool true]) (by simp [results, Tryd.results26, go_sem, h0, h1, h2, h3, h4, h5, h6]) rfl ?_
        unfold Got
        rw [Hget.out]
        exact ⟨_, _, rfl, Hr1.out.keep ⟨by simp [World.setCell], fun g hg _ => (far_set (B := w.heap.size + 1) (far_set (B := w.heap.size + 1) (far_set (B := w.heap.size + 1) (far_set (B := w.heap.size + 1) (far_set (B := w.heap.size + 1) (far_set (B := w.heap.size + 1) (far_set (B := w.heap.size + 1) (fun _ _ => rfl) (by simp)) (by simp)) (by simp)) (by simp)) (by simp)) (by simp)) (by simp)) g (by have := Hlt.out; have hg' : W.heap.size ≤ g := hg.1; omega)⟩ (fun g hg _ => ⟨by have := Hlt.out; have hg' : W.heap.size ≤ g := hg.1; omega, hg.2.keep ((far_set (B := w.heap.size + 1) (far_set (B := w.heap.size + 1) (far_set (B := w.heap.size + 1) (far_set (B := w.heap.size + 1) (far_set (B := w.heap.size + 1) (far_set (B := w.heap.size + 1) (far_set (B := w.heap.size + 1) (fun _ _ => rfl) (by simp)) (by simp)) (by simp)) (by simp)) (by simp)) (by simp)) (by simp)) g (by have := Hlt.out; have hg' : W.heap.size ≤ g := hg.1; omega))⟩), ((((((((Hbel.out.trans (Hb1.out.mono Hbel.out.size)).setCell (Nat.le_refl _) _).setCell (Nat.le_refl _) _).setCell (Nat.le_refl _) _).setCell (Nat.le_refl _) _).setCell (Nat.le_refl _) _).setCell (Nat.le_refl _) _).setCell (Nat.le_refl _) _)⟩
      · have hs := str_not hkk
        have hno : ∀ j b, j < k + 1 → l[j]? = some b → b.1 ≠ key := fun j b hj hb => by
          by_cases e : j = k
          · subst e; rw [Ha.out] at hb; exact Option.some.inj hb ▸ hkk
          · exact Hinv.out.no j b (by omega) hb
        have Hno := Lib.hid hno
        clear hno hkk
        go_wp2
        rw [← HW.out]
        go_roundw
        case rel => exact ⟨k + 1, by go_num, by omega, ⟨Hres.out, Hno.out, Hbel.out⟩⟩
        case measure => simp [intOf]; omega
    · have hget : getOr l key = (zeroV, false) := getOr_no fun j b hb => Hinv.out.no j b (by have := lt_of_get hb; have := Hn.out; omega) hb
      have Hget := Lib.hid hget
      obtain ⟨⟨h0, h1, h2, h3, h4, h5, h6⟩, g0, g1, g2, g3, g4, g5, g6⟩ := zero_box Hinv.out.res
      clear hget
      go_wp2
      refine bodyPost_ret (v := .tuple #[.agg (cv zeroV (.slice none 0 0) (.slice none 0 0)), .bool false]) (by simp [results, Tryd.results26, go_sem, h0, h1, h2, h3, h4, h5, h6, zeroV, V.k, V.s, V.b, V.n, V.f]) rfl ?_
      unfold Got
      rw [Hget.out]
      exact ⟨_, _, rfl, zero_rep _ _, (((((((Hinv.out.bel.setCell (Nat.le_refl _) _).setCell (Nat.le_refl _) _).setCell (Nat.le_refl _) _).setCell (Nat.le_refl _) _).setCell (Nat.le_refl _) _).setCell (Nat.le_refl _) _).setCell (Nat.le_refl _) _)⟩

set_option maxRecDepth 100000 in
set_option maxHeartbeats 8000000 in
theorem rput_any : PutC 28 := by
  intro w q l key x q1 q2 hq h112 hkey hx
  obtain ⟨adc, capc, rfl, _⟩ := hx.parts.2.1.form
  obtain ⟨add, capd, rfl, _⟩ := hx.parts.2.2.form
  obtain ⟨ad, cap, rfl, hl⟩ := hq.form
  obtain ⟨W, hW⟩ : ∃ W, W = w.alloc (.cells (cv x (.slice adc x.l.length capc) (.slice add x.p.length capd)) 27) := ⟨_, rfl⟩
  have hb0 : Below w.heap.size w W := by rw [hW]; exact (Below.refl _ _).alloc (Nat.le_refl _) _
  have hbox : W.heap[w.heap.size]? = some (.cells (cv x (.slice adc x.l.length capc) (.slice add x.p.length capd)) 27 (0, 0)) := by rw [hW]; exact blk_new w _
  have Hcall := Lib.hid (rcopyPairs_any l W _ (hq.under hb0) h112)
  have Hx := Lib.hid (hx.under hb0)
  have Hbox := Lib.hid hbox
  have Hb0 := Lib.hid hb0
  have HW := Lib.hid hW
  have H112 := Lib.hid h112
  have Hkey := Lib.hid hkey
  clear hW hb0 hbox hq hx h112 hkey hl
  go_enter Tryd.func28, Tryd.ntmps28
  go_wp2_with fail
  rw [← HW.out]
  refine (Hcall.out).mono ?_
  rintro e w1 ⟨v, es, rfl, hrow, hes, hb1⟩
  obtain ⟨adv, capv, rfl⟩ := hrow.form
  obtain ⟨n, hn⟩ : ∃ n, n = es.length := ⟨_, rfl⟩
  rw [← hn] at hrow ⊢
  have hl' : l.length = n := by rw [hn, ← hes]; simp
  have hn63 : n ≤ 9223372036854775807 := by have := H112.out; omega
  have Hrow := Lib.hid hrow
  have Hes := Lib.hid hes
  have Hn := Lib.hid hn
  have Hb1 := Lib.hid hb1
  have Hbel := Lib.hid (Hb0.out.trans (hb1.mono Hb0.out.size))
  have Hx1 := Lib.hid (Hx.out.under hb1)
  have Hbox1 := Lib.hid ((hb1.block _ (lt_of_block Hbox.out)).trans Hbox.out)
  have Hbase := Lib.hid (show w.heap.size + 1 ≤ W.heap.size from lt_of_block Hbox.out)
  clear hrow hes hn hb1 hl'
  go_wp2
  go_loop [13] (fun i => ∃ (k : Nat), i = .int .i64 (k : Int) ∧ k ≤ n ∧ Go.RowKit.Hid (∀ (j : Nat) b, j < k → l[j]? = some b → b.1 ≠ key)) (fun i => n - (intOf i).toNat)
  case atStart => exact ⟨0, rfl, by omega, fun j b hj => absurd hj (by omega)⟩
  case round =>
    obtain ⟨k, rfl, hk, hno⟩ := hrel
    have Hno := Lib.hid hno.out
    clear hno
    obtain ⟨b0, b1, b2, b3, b4, b5, b6⟩ := At7.box Hbox1.out
    simp only [Nat.zero_add] at b0 b1 b2 b3 b4 b5 b6
    by_cases hlt : k < n
    · obtain ⟨e, he⟩ := get_at' (l := es) (k := k) (by rw [← Hn.out]; exact hlt)
      obtain ⟨g, cap', hv, hgb, hgl⟩ := Hrow.out.own (List.ne_nil_of_mem (List.mem_of_getElem? he))
      injection hv with hv1 hv2 hv3
      subst hv1
      have hla : l[k]? = some (kv e) := by rw [← Hes.out, List.getElem?_map, he]; rfl
      have hk0 : (0 : Int) ≤ (k : Int) := by omega
      have hkn : (k : Int) < (n : Int) := by omega
      have hcell : ∀ j u, j < 8 → (pc e)[j]? = some u → w1.cell? ⟨g, k * 8 + j, none⟩ = some u := fun j u hj hu => by
        have := World.ownsRow.cells Hrow.out.row (g := g) rfl (k * 8 + j) u (by rw [fm_at pc_len es k e he j hj]; exact hu)
        rwa [show (⟨g, 0, none⟩ : Addr).add (k * 8 + j) = ⟨g, k * 8 + j, none⟩ by unfold Addr.add; split <;> simp_all] at this
      have c0 : w1.cell? ⟨g, k * 8, none⟩ = some (.string e.1) := hcell 0 _ (by omega) rfl
      have Hcell := Lib.hid hcell
      have He := Lib.hid he
      have Hla := Lib.hid hla
      have Hgl := Lib.hid hgl
      have Hgb := Lib.hid (Nat.le_trans (Nat.le_of_succ_le Hbase.out) hgb)
      clear hcell he hla hgl hgb hv2 hv3
      by_cases hkk : e.1 = key
      · have hs := str_is hkk
        have hput := putIn_at (v := x) Hla.out hkk Hno.out
        have Hput := Lib.hid hput
        clear hput hkk
        go_wp2_with fail
        refine (rcopy_any x _ _ _ Hx1.out).mono ?_
        rintro e' w2 ⟨r1, r2, rfl, hr2, hb2⟩
        obtain ⟨u1, v1, rfl, _⟩ := hr2.parts.2.1.form
        obtain ⟨u2, v2, rfl, _⟩ := hr2.parts.2.2.form
        have hrow2 := Hrow.out.under hb2
        have far : Rep (Far w2 W.heap.size (some g)) w2 (.slice u1 x.l.length v1) (.slice u2 x.p.length v2) x := hr2.keep (Kept.of_below (Below.refl _ _) _) fun j hj _ => ⟨Nat.le_trans Hb1.out.size hj.1, (fun e => by injection e with e; have := Hgl.out; have hj' : w1.heap.size ≤ j := hj.1; omega), hj.2⟩
        have hst := PRow.store (k := k) (e := e) Hn.out (hrow2.mono (base' := w.heap.size) (by have := Hbase.out; omega)) He.out (far.keep (Kept.of_below (Below.refl _ _) _) fun j hj _ => ⟨by have := Hbase.out; have h1 := hj.1; omega, hj.2⟩)
        have cell2 : ∀ j u, j < 8 → (pc e)[j]? = some u → w2.cell? ⟨g, k * 8 + j, none⟩ = some u := fun j u hj hu => (hb2.cell (p := ⟨g, k * 8 + j, none⟩) Hgl.out).trans (Hcell.out j u hj hu)
        have free2 : ∀ j, w2.frozen? ⟨g, j, none⟩ = false := fun j => World.ownsRow.frozenAt (by have := hrow2.row; rw [← Hn.out] at this; exact this) j
        have d1 := cell2 1 _ (by omega) rfl
        have d2 := cell2 2 _ (by omega) rfl
        have d3 := cell2 3 _ (by omega) rfl
        have d4 := cell2 4 _ (by omega) rfl
        have d5 := cell2 5 _ (by omega) rfl
        have d6 := cell2 6 _ (by omega) rfl
        have d7 := cell2 7 _ (by omega) rfl
        have f1 := free2 (k * 8 + 1)
        have f2 := free2 (k * 8 + 2)
        have f3 := free2 (k * 8 + 3)
        have f4 := free2 (k * 8 + 4)
        have f5 := free2 (k * 8 + 5)
        have f6 := free2 (k * 8 + 6)
        have f7 := free2 (k * 8 + 7)
        have Hst := Lib.hid hst
        have Hb2 := Lib.hid hb2
        clear hst cell2 free2 hrow2 far hr2 hb2
        go_wp2
        go_ret
        exact ⟨_, _, rfl, Hst.out, by rw [kv_set, Hes.out, Hput.out]; rfl, ((((((((Hbel.out.trans (Hb2.out.mono Hbel.out.size)).setCell Hgb.out _).setCell Hgb.out _).setCell Hgb.out _).setCell Hgb.out _).setCell Hgb.out _).setCell Hgb.out _).setCell Hgb.out _)⟩
      · have hs := str_not hkk
        have hno : ∀ (j : Nat) b, j < k + 1 → l[j]? = some b → b.1 ≠ key := fun j b hj hb => by
          by_cases ej : j = k
          · subst ej; rw [Hla.out] at hb; exact Option.some.inj hb ▸ hkk
          · exact Hno.out j b (by omega) hb
        have Hno2 := Lib.hid hno
        clear hno hkk
        go_wp2
        go_round
        case rel => exact ⟨k + 1, by go_num, by omega, Hno2.out⟩
        case measure => simp [intOf]; omega
    · have hll : es.length = l.length := by rw [← Hes.out]; simp
      have hput : putIn l key x = l ++ [(key, x)] := putIn_no fun j b hb => Hno.out j b (by have := lt_of_get hb; have h1 := Hn.out; omega) hb
      have Hput := Lib.hid hput
      have Hlen := Lib.hid (show es.length * 112 ≤ 140737488353100 by have := H112.out; omega)
      clear hll
      clear hput
      go_wp2_with fail
      refine (rcopy_any x _ _ _ Hx1.out).mono ?_
      rintro e w2 ⟨r1, r2, rfl, hr2, hb2⟩
      have Hr2 := Lib.hid hr2
      have Hb2 := Lib.hid hb2
      have Hrow' := Lib.hid (show PRow w1 W.heap.size (.slice adv es.length capv) es by rw [← Hn.out]; exact Hrow.out)
      clear hr2 hb2
      go_wp2_with (at_builtin; refine wp_app_p rfl _ _ rfl W.heap.size _ es (by rw [Hn.out]; rfl) (Hrow'.out.under Hb2.out) key x r1 r2 _ rfl Hkey.out (far_newP' (w0 := w1) Hrow'.out Hr2.out Hb1.out.size) _ rfl rfl Hlen.out (Nat.le_trans Hb1.out.size Hb2.out.size) ?_)
      intro v3 w3 hrow3 hgr3
      have Hrow3 := Lib.hid hrow3
      have Hb3 := Lib.hid ((Hbel.out.trans (Hb2.out.mono Hbel.out.size)).trans (hgr3.below (by have := Hbel.out.size; have := Hb2.out.size; omega) fun k hk => by have h1 := (Hrow'.out.lt k hk).1; have := Hbase.out; omega))
      clear hrow3 hgr3
      go_wp2
      go_ret
      exact ⟨_, _, rfl, Hrow3.out.mono (by have := Hbase.out; omega), by rw [Hput.out, List.map_append, Hes.out]; rfl, Hb3.out⟩

/-- where the document's Drop stands, behind its copy w1 -/
structure RdInv (l : List (ByteArray × V)) (key : ByteArray) (w w1 : World) (k : Nat) (v : Value) (es : List (ByteArray × V × Value × Value)) (wr : World) : Prop where
  row : PRow wr w.heap.size v es
  far : ∀ g, v.ownBlock = some g → w1.heap.size ≤ g
  eq : es.map kv = dropOf (l.take k) key
  bel : Below w1.heap.size w1 wr
set_option maxRecDepth 100000 in
set_option maxHeartbeats 8000000 in
theorem rdrop_any : DropC 30 := by
  intro w q l key hq hl112 hkey
  obtain ⟨ad, cap, rfl, hl⟩ := hq.form
  have Hcall := Lib.hid (rcopyPairs_any l w _ hq hl112)
  have H112 := Lib.hid hl112
  clear hq hl112 hl
  go_enter Tryd.func30, Tryd.ntmps30
  go_wp2_with fail
  refine (Hcall.out).mono ?_
  rintro e w1 ⟨v, es1, rfl, hrow, hes, hb1⟩
  obtain ⟨adv, capv, rfl⟩ := hrow.form
  obtain ⟨n, hn⟩ : ∃ n, n = es1.length := ⟨_, rfl⟩
  rw [← hn] at hrow ⊢
  have hl' : l.length = n := by rw [hn, ← hes]; simp
  have hn63 : n ≤ 9223372036854775807 := by have := H112.out; omega
  have Hrow1 := Lib.hid hrow
  have Hes := Lib.hid hes
  have Hn := Lib.hid hn
  have Hb1 := Lib.hid hb1
  have Hl := Lib.hid hl'
  clear hrow hes hn hb1 hl'
  go_wp2
  go_loopw [5, 11] (fun v i wr => ∃ (k : Nat) (es : List (ByteArray × V × Value × Value)), i = .int .i64 (k : Int) ∧ k ≤ n ∧ Go.RowKit.Hid (RdInv l key w w1 k v es wr)) (fun _ i _ => n - (intOf i).toNat)
  case atStart => exact ⟨0, [], rfl, by omega, ⟨PRow.nil _ _, (fun g h => nomatch h), by simp [dropOf], Below.refl _ _⟩⟩
  case round =>
    obtain ⟨k, es, rfl, hk, hinv⟩ := hrel
    have Hinv := Lib.hid hinv.out
    clear hinv
    by_cases hlt : k < n
    · obtain ⟨e, he⟩ := get_at' (l := es1) (k := k) (by rw [← Hn.out]; exact hlt)
      obtain ⟨g, cap', hv, hgb, hgl⟩ := Hrow1.out.own (List.ne_nil_of_mem (List.mem_of_getElem? he))
      injection hv with hv1 hv2 hv3
      subst hv1
      have hla : l[k]? = some (kv e) := by rw [← Hes.out, List.getElem?_map, he]; rfl
      have hk0 : (0 : Int) ≤ (k : Int) := by omega
      have hkn : (k : Int) < (n : Int) := by omega
      have hcell : ∀ j u, j < 8 → (pc e)[j]? = some u → wr.cell? ⟨g, k * 8 + j, none⟩ = some u := fun j u hj hu => by
        have := World.ownsRow.cells (Hrow1.out.under Hinv.out.bel).row (g := g) rfl (k * 8 + j) u (by rw [fm_at pc_len es1 k e he j hj]; exact hu)
        rwa [show (⟨g, 0, none⟩ : Addr).add (k * 8 + j) = ⟨g, k * 8 + j, none⟩ by unfold Addr.add; split <;> simp_all] at this
      obtain ⟨ky, a, q1, q2⟩ := e
      have hrep0 := Hrow1.out.rep _ (List.mem_of_getElem? he)
      have hky := Hrow1.out.key _ (List.mem_of_getElem? he)
      dsimp only at hrep0 hky
      obtain ⟨adc, capc, rfl, _⟩ := hrep0.parts.2.1.form
      obtain ⟨add, capd, rfl, _⟩ := hrep0.parts.2.2.form
      have c0 : wr.cell? ⟨g, k * 8, none⟩ = some (.string ky) := hcell 0 _ (by omega) rfl
      have c1 := hcell 1 _ (by omega) rfl
      have c2 := hcell 2 _ (by omega) rfl
      have c3 := hcell 3 _ (by omega) rfl
      have c4 := hcell 4 _ (by omega) rfl
      have c5 := hcell 5 _ (by omega) rfl
      have c6 := hcell 6 _ (by omega) rfl
      have c7 := hcell 7 _ (by omega) rfl
      dsimp only at c1 c2 c3 c4 c5 c6 c7
      have hlen : es.length * 112 ≤ 140737488353100 := by
        have h1 : es.length = (es.map kv).length := by simp
        rw [Hinv.out.eq] at h1
        have h2 := dropOf_len (l.take k) key
        rw [List.length_take] at h2
        have := H112.out
        omega
      have hnext := dropOf_snoc (l.take k) key (ky, a)
      have hla' : l[k]? = some (ky, a) := hla
      rw [← take_get hla', ← Hinv.out.eq] at hnext
      obtain ⟨W, hW⟩ : ∃ W, W = wr.alloc (.cells (pv ky a (.slice adc a.l.length capc) (.slice add a.p.length capd)) 51) := ⟨_, rfl⟩
      have hBW : Below wr.heap.size wr W := by rw [hW]; exact (Below.refl _ _).alloc (Nat.le_refl _) _
      have hA : At8 W wr.heap.size 0 ky a (.slice adc a.l.length capc) (.slice add a.p.length capd) := At8.box (t := 51) (by rw [hW]; exact blk_new wr _)
      obtain ⟨z0, z1, z2, z3, z4, z5, z6, z7⟩ := hA
      simp only [Nat.zero_add] at z0 z1 z2 z3 z4 z5 z6 z7
      have hB1 : Below w1.heap.size w1 W := Hinv.out.bel.trans (hBW.mono Hinv.out.bel.size)
      have Hrep := Lib.hid (hrep0.keep (S' := Far W w.heap.size (Value.ownBlock _)) (Kept.of_below hB1 _) fun j hj hl => ⟨hj.1, (fun e => by have := Hinv.out.far j e; omega), hj.2.2.keep (hB1.block j hl)⟩)
      have Hrow := Lib.hid (Hinv.out.row.under hBW)
      have Hbase := Lib.hid (show w.heap.size ≤ W.heap.size from Nat.le_trans Hb1.out.size hB1.size)
      have HB1 := Lib.hid hB1
      have HW := Lib.hid hW
      have Hlen := Lib.hid hlen
      have Hky := Lib.hid hky
      clear hW hBW hlen hky hrep0 hla hla' hcell he hgl hgb hv2 hv3 hB1
      by_cases hkk : ky = key
      · rw [if_pos hkk, List.append_nil] at hnext
        have Hnext := Lib.hid hnext
        have hs := str_is hkk
        clear hnext hkk
        go_wp2
        rw [← HW.out]
        go_roundw
        case rel => exact ⟨k + 1, es, by go_num, by omega, ⟨Hrow.out, Hinv.out.far, Hnext.out.symm, HB1.out⟩⟩
        case measure => simp [intOf]; omega
      · rw [if_neg hkk] at hnext
        have Hnext := Lib.hid hnext
        have hs := str_not hkk
        clear hnext hkk
        have hrow' := Hrow.out
        have hrep' := Hrep.out
        have hbase' := Hbase.out
        rw [HW.out] at hrow' hrep' hbase'
        have Hrow' := Lib.hid hrow'
        have Hrep' := Lib.hid hrep'
        have Hbase' := Lib.hid hbase'
        clear hrow' hrep' hbase'
        go_wp2_with (at_builtin; refine wp_app_p (by rfl) (.tmp 19) (.tmp 21) (by rfl) w.heap.size _ es (by rfl) Hrow'.out ky a (.slice adc a.l.length capc) (.slice add a.p.length capd) _ (by rfl) Hky.out Hrep'.out (wr.heap.size + 1) (by rfl) (by simp) Hlen.out Hbase'.out ?_)
        intro v2 w2 hrow2 hgr2
        rw [← HW.out] at hgr2
        have Hrow2 := Lib.hid hrow2
        have Hfar2 := Lib.hid (show ∀ g, v2.ownBlock = some g → w1.heap.size ≤ g from fun g hg => by
          rcases hgr2.o with o | ⟨b, o, hb⟩
          · rw [o] at hg; exact Hinv.out.far g hg
          · rw [o] at hg; injection hg with hg; have := HB1.out.size; omega)
        have Hb2 := Lib.hid (HB1.out.trans (hgr2.below HB1.out.size Hinv.out.far))
        clear hrow2 hgr2
        go_wp2
        go_roundw
        case rel => exact ⟨k + 1, _, by go_num, by omega, ⟨Hrow2.out, Hfar2.out, by rw [Hnext.out, List.map_append]; rfl, Hb2.out⟩⟩
        case measure => simp [intOf]; omega
    · have he := Hinv.out.eq
      rw [List.take_of_length_le (by have := Hl.out; omega)] at he
      have He := Lib.hid he
      clear he
      go_wp2
      go_ret
      exact ⟨_, es, rfl, Hinv.out.row, He.out, Hb1.out.trans (Hinv.out.bel.mono Hb1.out.size)⟩
end Go.Proofs.YtnnnnlcpmocnfaaDoor
