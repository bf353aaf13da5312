/- THE WALKS OVER Get, Put, Drop, the program's. -/
import Derived.Test.YtnnnnlcpmocnfaaDoorAt2
import Derived.Deep.RegionHeld3
import Derived.Deep.RegionLaw
import Derived.StillTailTactics
import Derived.WalkLawsBesides
import Derived.Outline
namespace Go.Proofs.YtnnnnlcpmocnfaaDoor
open Go.RowKit
set_option linter.unusedVariables false
set_option linter.unusedSimpArgs false
attribute [local go_sem] run_store_float


/-- where Drop stands -/
structure DrInv29 (l : List (ByteArray × V)) (key : ByteArray) (w : World) (k : Nat) (v : Value) (es : List (ByteArray × V × Value × Value)) (wr : World) : Prop where
  row : PRow wr w.heap.size v es
  eq : es.map kv = dropOf (l.take k) key
  bel : Below w.heap.size w wr
set_option maxRecDepth 100000 in
set_option maxHeartbeats 8000000 in
theorem drop_any : DropC 29 := by
  intro w q l key hq hl112 hkey
  obtain ⟨ad, cap, rfl, hl⟩ := hq.form
  obtain ⟨n, hn⟩ : ∃ n, n = l.length := ⟨_, rfl⟩
  rw [← hn] at hq hl hl112 ⊢
  have Hn := Lib.hid hn
  have Hq := Lib.hid hq
  have H112 := Lib.hid hl112
  clear hn hq hl112
  go_enter Tryd.func29, Tryd.ntmps29
  go_wp2
  go_loopw [5, 10] (fun v i wr => ∃ (k : Nat) (es : List (ByteArray × V × Value × Value)), i = .int .i64 (k : Int) ∧ k ≤ n ∧ Go.RowKit.Hid (DrInv29 l key w k v es wr)) (fun _ i _ => n - (intOf i).toNat)
  case atStart => exact ⟨0, [], rfl, by omega, ⟨PRow.nil _ _, by simp [dropOf], Below.refl _ _⟩⟩
  case round =>
    obtain ⟨k, es, rfl, hk, hinv⟩ := hrel
    have Hinv := Lib.hid hinv.out
    clear hinv
    by_cases hlt : k < n
    · obtain ⟨a, ha⟩ := get_at' (l := l) (k := k) (by rw [← Hn.out]; exact hlt)
      obtain ⟨g, o, c, d, rfl, hg, ⟨c0, c1, c2, c3, c4, c5, c6, c7⟩, hky, hrep⟩ := (Hq.out.under Hinv.out.bel).at ha
      obtain ⟨adc, capc, rfl, _⟩ := hrep.parts.2.1.form
      obtain ⟨add, capd, rfl, _⟩ := hrep.parts.2.2.form
      have hk0 : (0 : Int) ≤ (k : Int) := by omega
      have hkn : (k : Int) < (n : Int) := by omega
      have hlen : es.length * 112 ≤ 140737488353100 := by
        have h1 : es.length = (es.map kv).length := by simp
        rw [Hinv.out.eq] at h1
        have h2 := dropOf_len (l.take k) key
        rw [List.length_take] at h2
        have := H112.out
        omega
      have hnext := dropOf_snoc (l.take k) key a
      rw [← take_get ha, ← Hinv.out.eq] at hnext
      obtain ⟨W, hW⟩ : ∃ W, W = wr.alloc (.cells (pv a.1 a.2 (.slice adc a.2.l.length capc) (.slice add a.2.p.length capd)) 51) := ⟨_, rfl⟩
      have hBW : Below wr.heap.size wr W := by rw [hW]; exact (Below.refl _ _).alloc (Nat.le_refl _) _
      have hA : At8 W wr.heap.size 0 a.1 a.2 (.slice adc a.2.l.length capc) (.slice add a.2.p.length capd) := At8.box (t := 51) (by rw [hW]; exact blk_new wr _)
      obtain ⟨z0, z1, z2, z3, z4, z5, z6, z7⟩ := hA
      simp only [Nat.zero_add] at z0 z1 z2 z3 z4 z5 z6 z7
      have Hrep := Lib.hid (hrep.under hBW)
      have Hrow := Lib.hid (Hinv.out.row.under hBW)
      have Hbase := Lib.hid (show w.heap.size ≤ W.heap.size from Nat.le_trans Hinv.out.bel.size hBW.size)
      have Hbel := Lib.hid (Hinv.out.bel.trans (hBW.mono Hinv.out.bel.size))
      have HW := Lib.hid hW
      have Hlen := Lib.hid hlen
      have Hky := Lib.hid hky
      clear hW hBW hlen hky ha hrep hg
      by_cases hkk : a.1 = key
      · rw [if_pos hkk, List.append_nil] at hnext
        have Hnext := Lib.hid hnext
        have hs := str_is hkk
        clear hnext hkk
        go_wp2
        rw [← HW.out]
        go_roundw
        case rel => exact ⟨k + 1, es, by go_num, by omega, ⟨Hrow.out, Hnext.out.symm, Hbel.out⟩⟩
        case measure => simp [intOf]; omega
      · rw [if_neg hkk] at hnext
        have Hnext := Lib.hid hnext
        have hs := str_not hkk
        clear hnext hkk
        go_wp2_with fail
        rw [← HW.out]
        refine (copied1_any _ _ _ _ _ Hrep.out).mono ?_
        rintro e w1 ⟨r1, r2, rfl, hr1, hb1⟩
        have Hb1 := Lib.hid hb1
        have Hr1 := Lib.hid hr1
        clear hb1 hr1
        go_wp2_with (at_builtin; refine wp_app_p rfl _ _ rfl w.heap.size _ es rfl (Hrow.out.under Hb1.out) a.1 a.2 r1 r2 _ rfl Hky.out (far_newP' (w0 := W) Hrow.out Hr1.out Hbase.out) _ rfl rfl Hlen.out (Nat.le_trans Hbase.out Hb1.out.size) ?_)
        intro v2 w2 hrow2 hgr2
        have Hrow2 := Lib.hid hrow2
        have Hb2 := Lib.hid ((Hbel.out.trans (Hb1.out.mono Hbel.out.size)).trans (hgr2.below (by have := Hbase.out; have := Hb1.out.size; omega) fun k hk => (Hrow.out.lt k hk).1))
        clear hrow2 hgr2
        go_wp2
        go_roundw
        case rel => exact ⟨k + 1, _, by go_num, by omega, ⟨Hrow2.out, by rw [Hnext.out, List.map_append]; rfl, Hb2.out⟩⟩
        case measure => simp [intOf]; omega
    · have he := Hinv.out.eq
      rw [List.take_of_length_le (by have := Hn.out; omega)] at he
      have He := Lib.hid he
      clear he
      go_wp2
      go_ret
      exact ⟨_, es, rfl, Hinv.out.row, He.out, Hinv.out.bel⟩
end Go.Proofs.YtnnnnlcpmocnfaaDoor
