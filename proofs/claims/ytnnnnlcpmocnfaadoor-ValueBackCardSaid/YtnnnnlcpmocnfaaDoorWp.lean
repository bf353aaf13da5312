/- MESSAGES OF VALUES: the parts of a list or a map, WALKED. -/
import Derived.Test.YtnnnnlcpmocnfaaDoorWm
import Derived.Test.YtnnnnlcpmocnfaaDoorCp3
import Derived.Test.YtnnnnlcpmocnfaaDoorAll
import Derived.Outline
import Derived.WalkLawsBesides
import Derived.Deep.RegionLaw
import Derived.Deep.RegionHeld3
namespace Go.Proofs.YtnnnnlcpmocnfaaDoor
open Go.RowKit
set_option linter.unusedVariables false
set_option linter.unusedSimpArgs false
attribute [local go_sem] run_store_float

theorem FRow.under {w w' : World} {base : Nat} {v : Value} {fs : List M.Fd} (h : FRow w base v fs) (hb : Below w.heap.size w w') : FRow w' base v fs := row_keep h fun g _ hl => hb.block g hl
theorem bf_fit (n : Int) (t : List UInt8) (hn : 0 ≤ n ∧ n ≤ 1000) (ht : t.length ≤ 9223372036854775807) : Fit (bf n t) n 2 0 t := ⟨rfl, by decide, by decide, by decide, by decide, by omega, by omega, ht⟩
theorem fine_bf (n : Int) (t : List UInt8) (hn : 0 ≤ n ∧ n ≤ 1000) (ht : t.length ≤ 9223372036854775807) : Fine (bf n t) := ⟨_, _, _, _, bf_fit n t hn ht⟩
/-- all parts of a list of results that came out are short -/
def Short (rs : List Res) : Prop := ∀ t, Except.ok t ∈ rs → t.length ≤ 65536
theorem joined_fine : ∀ (rs : List Res) (fs : List M.Fd), Short rs → joined rs = .ok fs → ∀ f ∈ fs, Fine f := by
  intro rs
  induction rs with
  | nil => intro fs _ h; injection h with h; subst h; intro f hf; cases hf
  | cons a rs ih =>
    intro fs hs h
    cases a with
    | error e => cases h
    | ok t =>
      have h' : (match joined rs with | .error e => Except.error e | .ok fs => .ok (bf 1 t :: fs)) = .ok fs := h
      cases hj : joined rs with
      | error e => rw [hj] at h'; cases h'
      | ok gs =>
        rw [hj] at h'
        injection h' with h'
        subst h'
        intro f hf
        rcases List.mem_cons.1 hf with rfl | hf
        · exact fine_bf 1 t (by omega) (by have := hs t (by simp); omega)
        · exact ih gs (fun t ht => hs t (by simp [ht])) hj f hf
theorem Short.take {rs : List Res} (h : Short rs) (k : Nat) : Short (rs.take k) := fun t ht => h t (List.mem_of_mem_take ht)
theorem take_snoc' {α : Type} {l : List α} {k : Nat} {a : α} (h : l[k]? = some a) : l.take (k + 1) = l.take k ++ [a] := by rw [List.take_add_one, h]; rfl
theorem cut_snoc {α : Type} {l : List α} {k : Nat} {a : α} (h : l[k]? = some a) : l = (l.take k ++ [a]) ++ l.drop (k + 1) := by
  rw [← take_snoc' h, List.take_append_drop]

set_option maxRecDepth 100000 in
set_option maxHeartbeats 4000000 in
/-- parts that the closure 96 writes -/
theorem parts_96 (rs : List Res) (n : Nat) (hn : n = rs.length) (hs : Short rs) (hn1 : n ≤ 1000000) (g : Nat) (w : World)
    (hcl : ∀ (W : World) (k : Nat) (r : Res), Below w.heap.size w W → rs[k]? = some r → Calls Tryd.prog 96 #[.int .i64 (k : Int), .pointer (some ⟨g, 0, none⟩)] W (Wrote r W)) :
    Calls Tryd.prog 95 #[.int .i64 (n : Int), .func (Fn.func 96) #[] #[.pointer (some ⟨g, 0, none⟩)]] w (Wrote (wjoin rs) w) := by
  have Hn := Lib.hid hn
  have Hs := Lib.hid hs
  have Hcl := Lib.hid hcl
  clear hn hs hcl
  go_enter Tryd.func95, Tryd.ntmps95
  go_wp2
  go_loopw [5, 8] (fun v i wr => ∃ (k : Nat) (fs : List M.Fd), i = .int .i64 (k : Int) ∧ k ≤ n ∧ Go.RowKit.Hid (FRow wr w.heap.size v fs ∧ joined (rs.take k) = .ok fs ∧ Below w.heap.size w wr)) (fun _ i _ => n - (intOf i).toNat)
  case atStart => exact ⟨0, [], rfl, by omega, FRow.nil _ _, rfl, Below.refl _ _⟩
  case round =>
    obtain ⟨k, fs, rfl, hk, hinv⟩ := hrel
    have Hrow := Lib.hid hinv.out.1
    have Hj := Lib.hid hinv.out.2.1
    have Hbel := Lib.hid hinv.out.2.2
    clear hinv
    have Hfl := Lib.hid (joined_len _ _ Hj.out)
    by_cases hlt : k < n
    · obtain ⟨r, hr⟩ : ∃ r, rs[k]? = some r := ⟨rs[k]'(by have := Hn.out; omega), by simp⟩
      have Hr := Lib.hid hr
      have Hcall := Lib.hid (Hcl.out wr k r Hbel.out hr)
      clear hr
      cases r with
      | error c =>
        have hres : wjoin rs = .error c := by
          have h1 : joined (rs.take k ++ [.error c]) = .error c := by rw [joined_snoc, Hj.out]
          unfold wjoin
          rw [cut_snoc Hr.out, joined_err _ _ h1]
        rw [hres]
        clear hres
        go_wp2_with fail
        refine (Hcall.out).mono ?_
        intro e w2 hc
        obtain ⟨rfl, hb2⟩ := hc.no
        exact ⟨rfl, by exact Wrote.mkn (Hbel.out.trans (hb2.mono Hbel.out.size))⟩
      | ok t =>
        have Ht := Lib.hid (Hs.out t (List.mem_of_getElem? Hr.out))
        go_wp2_with fail
        refine (Hcall.out).mono ?_
        intro e w2 hc
        obtain ⟨rfl, hb2⟩ := hc.ok
        have Hrow2 := Lib.hid (Hrow.out.under hb2)
        have Hbel2 := Lib.hid (Hbel.out.trans (hb2.mono Hbel.out.size))
        have Hlen := Lib.hid (show fs.length ≤ 3518437208782 by have h1 := Hfl.out; have h2 := List.length_take_le k rs; omega)
        have Hb0 := Lib.hid (show w.heap.size ≤ w2.heap.size from Hbel2.out.size)
        clear hc hb2
        go_wp2_with (at_builtin; refine wp_app_fd rfl _ _ rfl w.heap.size _ _ rfl (Hrow2.out) (bf 1 t) (fcells 1 2 0 t) rfl _ rfl rfl Hlen.out Hb0.out ?_)
        intro v3 w3 hrow3 hgr3
        have Hrow3 := Lib.hid hrow3
        have Hbel3 := Lib.hid (Hbel2.out.trans (hgr3.below Hb0.out (fun k hk => (Hrow2.out.lt k hk).1)))
        clear hrow3 hgr3
        go_wp2
        go_roundw
        case rel => exact ⟨k + 1, fs ++ [bf 1 t], by go_num, by omega, Hrow3.out, by rw [take_snoc' Hr.out, joined_snoc, Hj.out], Hbel3.out⟩
        case measure => simp [intOf]; omega
    · have hj : joined rs = .ok fs := by
        have h := Hj.out
        rwa [List.take_of_length_le (by have := Hn.out; omega)] at h
      obtain ⟨ad, cap, hv, hfl⟩ := Hrow.out.flds (joined_fine _ _ (Hs.out.take k) Hj.out) (by have h1 := Hfl.out; have h2 := List.length_take_le k rs; omega)
      subst hv
      obtain ⟨m, hm⟩ : ∃ m, m = fs.length := ⟨_, rfl⟩
      rw [← hm]
      have hmsg := message_any wr ad cap m fs hm hfl
      have hres : wjoin rs = wrE fs := by unfold wjoin; rw [hj]
      have Hmsg := Lib.hid hmsg
      clear hmsg hm hj hfl
      cases hw : wrE fs with
      | error c =>
        rw [hw] at Hmsg
        have HRes := Lib.hid (hres.trans hw)
        clear hw hres
        go_wp2_with fail
        refine (Hmsg.out).mono ?_
        intro e w2 hc
        obtain ⟨rfl, hb2⟩ := hc.no
        exact ⟨rfl, by rw [HRes.out]; exact Wrote.mkn (Hbel.out.trans (hb2.mono Hbel.out.size))⟩
      | ok t =>
        rw [hw] at Hmsg
        have HRes := Lib.hid (hres.trans hw)
        clear hw hres
        go_wp2_with fail
        refine (Hmsg.out).mono ?_
        intro e w2 hc
        obtain ⟨rfl, hb2⟩ := hc.ok
        have Hb2 := Lib.hid (Hbel.out.trans (hb2.mono Hbel.out.size))
        clear hb2 hc
        go_wp2
        go_ret
        rw [HRes.out]
        exact Wrote.mk0 Hb2.out

set_option maxRecDepth 100000 in
set_option maxHeartbeats 4000000 in
/-- parts that the closure 97 writes -/
theorem parts_97 (rs : List Res) (n : Nat) (hn : n = rs.length) (hs : Short rs) (hn1 : n ≤ 1000000) (g : Nat) (w : World)
    (hcl : ∀ (W : World) (k : Nat) (r : Res), Below w.heap.size w W → rs[k]? = some r → Calls Tryd.prog 97 #[.int .i64 (k : Int), .pointer (some ⟨g, 0, none⟩)] W (Wrote r W)) :
    Calls Tryd.prog 95 #[.int .i64 (n : Int), .func (Fn.func 97) #[] #[.pointer (some ⟨g, 0, none⟩)]] w (Wrote (wjoin rs) w) := by
  have Hn := Lib.hid hn
  have Hs := Lib.hid hs
  have Hcl := Lib.hid hcl
  clear hn hs hcl
  go_enter Tryd.func95, Tryd.ntmps95
  go_wp2
  go_loopw [5, 8] (fun v i wr => ∃ (k : Nat) (fs : List M.Fd), i = .int .i64 (k : Int) ∧ k ≤ n ∧ Go.RowKit.Hid (FRow wr w.heap.size v fs ∧ joined (rs.take k) = .ok fs ∧ Below w.heap.size w wr)) (fun _ i _ => n - (intOf i).toNat)
  case atStart => exact ⟨0, [], rfl, by omega, FRow.nil _ _, rfl, Below.refl _ _⟩
  case round =>
    obtain ⟨k, fs, rfl, hk, hinv⟩ := hrel
    have Hrow := Lib.hid hinv.out.1
    have Hj := Lib.hid hinv.out.2.1
    have Hbel := Lib.hid hinv.out.2.2
    clear hinv
    have Hfl := Lib.hid (joined_len _ _ Hj.out)
    by_cases hlt : k < n
    · obtain ⟨r, hr⟩ : ∃ r, rs[k]? = some r := ⟨rs[k]'(by have := Hn.out; omega), by simp⟩
      have Hr := Lib.hid hr
      have Hcall := Lib.hid (Hcl.out wr k r Hbel.out hr)
      clear hr
      cases r with
      | error c =>
        have hres : wjoin rs = .error c := by
          have h1 : joined (rs.take k ++ [.error c]) = .error c := by rw [joined_snoc, Hj.out]
          unfold wjoin
          rw [cut_snoc Hr.out, joined_err _ _ h1]
        rw [hres]
        clear hres
        go_wp2_with fail
        refine (Hcall.out).mono ?_
        intro e w2 hc
        obtain ⟨rfl, hb2⟩ := hc.no
        exact ⟨rfl, by exact Wrote.mkn (Hbel.out.trans (hb2.mono Hbel.out.size))⟩
      | ok t =>
        have Ht := Lib.hid (Hs.out t (List.mem_of_getElem? Hr.out))
        go_wp2_with fail
        refine (Hcall.out).mono ?_
        intro e w2 hc
        obtain ⟨rfl, hb2⟩ := hc.ok
        have Hrow2 := Lib.hid (Hrow.out.under hb2)
        have Hbel2 := Lib.hid (Hbel.out.trans (hb2.mono Hbel.out.size))
        have Hlen := Lib.hid (show fs.length ≤ 3518437208782 by have h1 := Hfl.out; have h2 := List.length_take_le k rs; omega)
        have Hb0 := Lib.hid (show w.heap.size ≤ w2.heap.size from Hbel2.out.size)
        clear hc hb2
        go_wp2_with (at_builtin; refine wp_app_fd rfl _ _ rfl w.heap.size _ _ rfl (Hrow2.out) (bf 1 t) (fcells 1 2 0 t) rfl _ rfl rfl Hlen.out Hb0.out ?_)
        intro v3 w3 hrow3 hgr3
        have Hrow3 := Lib.hid hrow3
        have Hbel3 := Lib.hid (Hbel2.out.trans (hgr3.below Hb0.out (fun k hk => (Hrow2.out.lt k hk).1)))
        clear hrow3 hgr3
        go_wp2
        go_roundw
        case rel => exact ⟨k + 1, fs ++ [bf 1 t], by go_num, by omega, Hrow3.out, by rw [take_snoc' Hr.out, joined_snoc, Hj.out], Hbel3.out⟩
        case measure => simp [intOf]; omega
    · have hj : joined rs = .ok fs := by
        have h := Hj.out
        rwa [List.take_of_length_le (by have := Hn.out; omega)] at h
      obtain ⟨ad, cap, hv, hfl⟩ := Hrow.out.flds (joined_fine _ _ (Hs.out.take k) Hj.out) (by have h1 := Hfl.out; have h2 := List.length_take_le k rs; omega)
      subst hv
      obtain ⟨m, hm⟩ : ∃ m, m = fs.length := ⟨_, rfl⟩
      rw [← hm]
      have hmsg := message_any wr ad cap m fs hm hfl
      have hres : wjoin rs = wrE fs := by unfold wjoin; rw [hj]
      have Hmsg := Lib.hid hmsg
      clear hmsg hm hj hfl
      cases hw : wrE fs with
      | error c =>
        rw [hw] at Hmsg
        have HRes := Lib.hid (hres.trans hw)
        clear hw hres
        go_wp2_with fail
        refine (Hmsg.out).mono ?_
        intro e w2 hc
        obtain ⟨rfl, hb2⟩ := hc.no
        exact ⟨rfl, by rw [HRes.out]; exact Wrote.mkn (Hbel.out.trans (hb2.mono Hbel.out.size))⟩
      | ok t =>
        rw [hw] at Hmsg
        have HRes := Lib.hid (hres.trans hw)
        clear hw hres
        go_wp2_with fail
        refine (Hmsg.out).mono ?_
        intro e w2 hc
        obtain ⟨rfl, hb2⟩ := hc.ok
        have Hb2 := Lib.hid (Hbel.out.trans (hb2.mono Hbel.out.size))
        clear hb2 hc
        go_wp2
        go_ret
        rw [HRes.out]
        exact Wrote.mk0 Hb2.out
end Go.Proofs.YtnnnnlcpmocnfaaDoor
