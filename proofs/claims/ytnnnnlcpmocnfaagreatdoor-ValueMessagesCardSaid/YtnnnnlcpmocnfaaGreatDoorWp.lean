/- MESSAGES OF VALUES: the model of what is written, and a message of fields, WALKED. -/
import Derived.Test.YtnnnnlcpmocnfaaGreatDoorCk4
import Derived.Test.YtnnnnlcpmocnfaaGreatDoorRow
import Derived.Outline
import Derived.WalkLawsBesides
import Derived.Deep.RegionLaw
import Derived.Deep.RegionHeld3
import Derived.Test.YtnnnnlcpmocnfaaGreatDoorCp3
import Derived.Test.YtnnnnlcpmocnfaaGreatDoorAll
namespace Go.Proofs.YtnnnnlcpmocnfaaGreatDoor
open Go.RowKit
set_option linter.unusedVariables false
set_option linter.unusedSimpArgs false
attribute [local go_sem] run_store_float

abbrev Res := Except Nat (List UInt8)
/-- a message of fields -/
def wrE (fs : List M.Fd) : Res := if (M.wr fs).1 = 0 then .ok (M.wr fs).2 else .error (M.wr fs).1
/-- what writes a message leaves: the bytes, or a panic with the error's number -/
def Wrote (r : Res) (w : World) (e : Ending) (w' : World) : Prop :=
  (match r with | .ok t => e = .returned (.string ⟨t.toArray⟩) | .error c => e = pan31 (c : Int)) ∧ Below w.heap.size w w'
theorem Wrote.ok {t : List UInt8} {w : World} {e : Ending} {w' : World} (h : Wrote (.ok t) w e w') : e = .returned (.string ⟨t.toArray⟩) ∧ Below w.heap.size w w' := h
theorem Wrote.no {c : Nat} {w : World} {e : Ending} {w' : World} (h : Wrote (.error c) w e w') : e = pan31 (c : Int) ∧ Below w.heap.size w w' := h
theorem Wrote.mk0 {t : List UInt8} {w w' : World} (h : Below w.heap.size w w') : Wrote (.ok t) w (.returned (.string ⟨t.toArray⟩)) w' := ⟨rfl, h⟩
theorem Wrote.mkn {c : Nat} {w w' : World} (h : Below w.heap.size w w') : Wrote (.error c) w (pan31 (c : Int)) w' := ⟨rfl, h⟩

theorem wr_cases (fs : List M.Fd) : (∃ e, (e = 2 ∨ e = 3 ∨ e = 4) ∧ M.wr fs = (e, [])) ∨ (M.wr fs = (0, M.enc fs) ∧ fs.all M.may = true ∧ fs.length ≤ 4096 ∧ (M.enc fs).length ≤ 65536) := by
  unfold M.wr
  split
  · exact .inl ⟨3, by omega, rfl⟩
  · split
    · exact .inl ⟨2, by omega, rfl⟩
    · split
      · exact .inl ⟨4, by omega, rfl⟩
      · rename_i h1 h2 h3
        exact .inr ⟨rfl, by simpa using h2, by omega, by omega⟩
/-- a message: the error, or the bytes -/
theorem wrE_cases (fs : List M.Fd) : (∃ e, (e = 2 ∨ e = 3 ∨ e = 4) ∧ M.wr fs = (e, []) ∧ wrE fs = .error e) ∨ (M.wr fs = (0, M.enc fs) ∧ wrE fs = .ok (M.enc fs) ∧ fs.all M.may = true ∧ fs.length ≤ 4096 ∧ (M.enc fs).length ≤ 65536) := by
  rcases wr_cases fs with ⟨e, he, h⟩ | ⟨h, h2⟩
  · exact .inl ⟨e, he, h, by unfold wrE; rw [h, if_neg (by simp only; omega)]⟩
  · exact .inr ⟨h, by unfold wrE; rw [h, if_pos rfl], h2⟩

theorem write_any (w : World) (ad : Option Addr) (cap n : Nat) (fs : List M.Fd) (hfn : n = fs.length) (hfs : Flds w w.heap.size ad fs) :
    Calls Tryz.prog 78 #[.slice ad n cap] w fun e w' => e = .returned (.tuple #[.string ⟨(M.wr fs).2.toArray⟩, .int .i64 (M.wr fs).1]) ∧ Below w.heap.size w w' := by
  by_cases h : n ≤ 4096
  · exact write_short w ad cap n fs hfn hfs h
  · have hr : M.wr fs = (3, []) := by rw [M.wr, if_pos (by omega)]
    rw [hr]
    exact (write_long w ad cap n (by rw [hfn]; exact hfs.1) (by omega)).mono fun e w' ⟨he, hw⟩ => ⟨he, by rw [← hw]; exact Below.refl _ _⟩

theorem on_no (e : Int) (w : World) (h0 : (e == 0) = false) : Calls Tryz.prog 79 #[.int .i64 e] w fun en w' => en = pan31 e ∧ w = w' := by
  go_enter Tryz.func79, Tryz.ntmps79
  go_wp2_with fail
  refine (unless_no _ _).mono ?_
  rintro e w' ⟨rfl, rfl⟩
  exact ⟨rfl, by exact ⟨rfl, rfl⟩⟩

/-- the fields of a slice, written -/
theorem message_any (w : World) (ad : Option Addr) (cap n : Nat) (fs : List M.Fd) (hfn : n = fs.length) (hfs : Flds w w.heap.size ad fs) :
    Calls Tryz.prog 53 #[.slice ad n cap] w (Wrote (wrE fs) w) := by
  have h := write_any w ad cap n fs hfn hfs
  rcases wrE_cases fs with ⟨c, hc, h1, h2⟩ | ⟨h1, h2, _⟩
  · rw [h2]
    rw [h1] at h
    have H := Lib.hid h
    have Hc := Lib.hid (show ((c : Int) == 0) = false from beq_eq_false_iff_ne.2 (by omega))
    clear h h1 h2 hc hfs hfn
    go_enter Tryz.func53, Tryz.ntmps53
    go_wp2_with fail
    refine (H.out).mono ?_
    rintro e w' ⟨rfl, hb⟩
    go_wp2_with fail
    refine (on_no _ _ Hc.out).mono ?_
    rintro e w2 ⟨rfl, rfl⟩
    exact ⟨rfl, by exact Wrote.mkn hb⟩
  · rw [h2]
    rw [h1] at h
    have H := Lib.hid h
    clear h h1 h2 hfs hfn
    go_enter Tryz.func53, Tryz.ntmps53
    go_wp2_with fail
    refine (H.out).mono ?_
    rintro e w' ⟨rfl, hb⟩
    go_wp2_with fail
    refine (on_ok _).mono ?_
    rintro e w2 ⟨rfl, rfl⟩
    go_wp2
    go_ret
    exact Wrote.mk0 hb

theorem flds_one {w : World} {g : Nat} {f : M.Fd} {a b c : Int} {l : List UInt8} (hf : Fit f a b c l) (hg : w.heap[g]? = some (.cells (fcells a b c l) 73 (0, 0))) : Flds w w.heap.size (some ⟨g, 0, none⟩) [f] := by
  have hx := box4 hg
  refine ⟨by simp, fun _ => ⟨g, 0, rfl, (Array.getElem?_eq_some_iff.1 hg).1, fun i f' hf' => ?_⟩⟩
  match i, hf' with
  | 0, hf' =>
    simp at hf'
    subst hf'
    exact ⟨a, b, c, l, hf, ⟨hx.1, hx.2.1, hx.2.2.1, hx.2.2.2⟩⟩
/-- one field, written -/
theorem message_fd (w : World) (g : Nat) (f : M.Fd) (a b c : Int) (l : List UInt8) (hf : Fit f a b c l) (hg : w.heap[g]? = some (.cells (fcells a b c l) 73 (0, 0))) (r : Res) (hr : wrE [f] = r) :
    Calls Tryz.prog 53 #[.slice (some ⟨g, 0, none⟩) 1 1] w (Wrote r w) := by
  rw [← hr]
  exact message_any w _ 1 1 [f] rfl (flds_one hf hg)

/-- a field of bytes -/
abbrev bf (n : Int) (t : List UInt8) : M.Fd := ⟨n, 2, 0, t⟩
/-- parts, as fields; the first error -/
def joined : List Res → Except Nat (List M.Fd)
  | [] => .ok []
  | .error e :: _ => .error e
  | .ok t :: rs => match joined rs with | .error e => .error e | .ok fs => .ok (bf 1 t :: fs)
def wjoin (rs : List Res) : Res := match joined rs with | .error e => .error e | .ok fs => wrE fs
def around (n : Int) (r : Res) : Res := match r with | .error e => .error e | .ok t => wrE [bf n t]
def keyf (key : ByteArray) : List M.Fd := if key.toList.isEmpty = true then [] else [bf 1 key.data.toList]
def wpairE (key : ByteArray) (k : Int) (r : Res) : Res := if k = 0 then wrE (keyf key) else match r with | .error e => .error e | .ok t => wrE (keyf key ++ [bf 2 t])
mutual
/-- a value's message -/
noncomputable def wmsg : V → Res
  | .mk k s b n f l p => if k = 1 then wrE [bf 1 s.data.toList] else if k = 2 then wrE [⟨2, 0, if b then 1 else 0, []⟩] else if k = 3 then wrE [⟨3, 0, (IntKind.u64.wrap n).toNat, []⟩] else if k = 4 then wrE [⟨4, 1, f, []⟩]
    else if k = 5 then around 5 (wjoin (wL l)) else if k = 6 then around 6 (wjoin (wP p)) else if k = 7 then wrE [bf 7 s.data.toList] else .ok []
noncomputable def wL : List V → List Res
  | [] => []
  | x :: l => wmsg x :: wL l
noncomputable def wP : List (ByteArray × V) → List Res
  | [] => []
  | (key, x) :: l => wpairE key x.k (wmsg x) :: wP l
end
noncomputable def wpair (key : ByteArray) (x : V) : Res := wpairE key x.k (wmsg x)
theorem wL_map (l : List V) : wL l = l.map wmsg := by
  induction l with
  | nil => rw [wL]; rfl
  | cons x l ih => rw [wL, ih]; rfl
theorem wP_map (l : List (ByteArray × V)) : wP l = l.map fun e => wpair e.1 e.2 := by
  induction l with
  | nil => rw [wP]; rfl
  | cons x l ih => obtain ⟨key, x⟩ := x; rw [wP, ih]; rfl
theorem wmsg_eq (x : V) : wmsg x = if x.k = 1 then wrE [bf 1 x.s.data.toList] else if x.k = 2 then wrE [⟨2, 0, if x.b then 1 else 0, []⟩] else if x.k = 3 then wrE [⟨3, 0, (IntKind.u64.wrap x.n).toNat, []⟩] else if x.k = 4 then wrE [⟨4, 1, x.f, []⟩]
    else if x.k = 5 then around 5 (wjoin (x.l.map wmsg)) else if x.k = 6 then around 6 (wjoin (x.p.map fun e => wpair e.1 e.2)) else if x.k = 7 then wrE [bf 7 x.s.data.toList] else .ok [] := by
  rw [← wL_map, ← wP_map]
  cases x
  rw [wmsg]
  rfl
theorem joined_snoc (rs : List Res) (r : Res) : joined (rs ++ [r]) = match joined rs with | .error e => .error e | .ok fs => (match r with | .error e => .error e | .ok t => .ok (fs ++ [bf 1 t])) := by
  induction rs with
  | nil => cases r <;> rfl
  | cons a rs ih =>
    cases a with
    | error e => rfl
    | ok t =>
      show (match joined (rs ++ [r]) with | .error e => Except.error e | .ok fs => .ok (bf 1 t :: fs)) = _
      rw [ih]
      show _ = match (match joined rs with | .error e => Except.error e | .ok fs => .ok (bf 1 t :: fs)) with | .error e => Except.error e | .ok fs => _
      cases joined rs with
      | error e => rfl
      | ok fs => cases r <;> rfl
theorem joined_err (rs qs : List Res) {c : Nat} (h : joined rs = .error c) : joined (rs ++ qs) = .error c := by
  induction rs with
  | nil => cases h
  | cons a rs ih =>
    cases a with
    | error e => exact h
    | ok t =>
      have h' : (match joined rs with | .error e => Except.error e | .ok fs => .ok (bf 1 t :: fs)) = .error c := h
      show (match joined (rs ++ qs) with | .error e => Except.error e | .ok fs => .ok (bf 1 t :: fs)) = .error c
      cases hj : joined rs with
      | error e => rw [hj] at h'; injection h' with h'; subst h'; rw [ih hj]
      | ok fs => rw [hj] at h'; cases h'
theorem joined_len : ∀ (rs : List Res) (fs : List M.Fd), joined rs = .ok fs → fs.length = rs.length := by
  intro rs
  induction rs with
  | nil => intro fs h; injection h with h; subst h; rfl
  | cons a rs ih =>
    intro fs h
    cases a with
    | error e => cases h
    | ok t =>
      have h' : (match joined rs with | .error e => Except.error e | .ok fs => .ok (bf 1 t :: fs)) = .ok fs := h
      cases hj : joined rs with
      | error e => rw [hj] at h'; cases h'
      | ok gs => rw [hj] at h'; injection h' with h'; subst h'; simp [ih gs hj]
end Go.Proofs.YtnnnnlcpmocnfaaGreatDoor

/- MESSAGES OF VALUES: the parts of a list or a map, WALKED. -/
namespace Go.Proofs.YtnnnnlcpmocnfaaGreatDoor
open Go.RowKit
set_option linter.unusedVariables false
set_option linter.unusedSimpArgs false
attribute [local go_sem] run_store_float

theorem FRow.under {w w' : World} {base : Nat} {v : Value} {fs : List M.Fd} (h : FRow w base v fs) (hb : Below w.heap.size w w') : FRow w' base v fs := row_keep h fun g _ hl => hb.block g hl
theorem bf_fit (n : Int) (t : List UInt8) (hn : 0 ≤ n ∧ n ≤ 1000) (ht : t.length ≤ 9223372036854775807) : Fit (bf n t) n 2 0 t := ⟨rfl, by decide, by decide, by decide, by decide, by omega, by omega, ht⟩
theorem fine_bf (n : Int) (t : List UInt8) (hn : 0 ≤ n ∧ n ≤ 1000) (ht : t.length ≤ 9223372036854775807) : Fine (bf n t) := ⟨_, _, _, _, bf_fit n t hn ht⟩
/-- all parts of a list of results that came out are short -/
def Short (rs : List Res) : Prop := ∀ t, Except.ok t ∈ rs → t.length ≤ 65536
theorem joined_fine : ∀ (rs : List Res) (fs : List M.Fd), Short rs → joined rs = .ok fs → ∀ f ∈ fs, Fine f := by
  intro rs
  induction rs with
  | nil => intro fs _ h; injection h with h; subst h; intro f hf; cases hf
  | cons a rs ih =>
    intro fs hs h
    cases a with
    | error e => cases h
    | ok t =>
      have h' : (match joined rs with | .error e => Except.error e | .ok fs => .ok (bf 1 t :: fs)) = .ok fs := h
      cases hj : joined rs with
      | error e => rw [hj] at h'; cases h'
      | ok gs =>
        rw [hj] at h'
        injection h' with h'
        subst h'
        intro f hf
        rcases List.mem_cons.1 hf with rfl | hf
        · exact fine_bf 1 t (by omega) (by have := hs t (by simp); omega)
        · exact ih gs (fun t ht => hs t (by simp [ht])) hj f hf
theorem Short.take {rs : List Res} (h : Short rs) (k : Nat) : Short (rs.take k) := fun t ht => h t (List.mem_of_mem_take ht)
theorem take_snoc' {α : Type} {l : List α} {k : Nat} {a : α} (h : l[k]? = some a) : l.take (k + 1) = l.take k ++ [a] := by rw [List.take_add_one, h]; rfl
theorem cut_snoc {α : Type} {l : List α} {k : Nat} {a : α} (h : l[k]? = some a) : l = (l.take k ++ [a]) ++ l.drop (k + 1) := by
  rw [← take_snoc' h, List.take_append_drop]

set_option maxRecDepth 100000 in
set_option maxHeartbeats 4000000 in
/-- parts that the closure 96 writes -/
theorem parts_96 (rs : List Res) (n : Nat) (hn : n = rs.length) (hs : Short rs) (hn1 : n ≤ 1000000) (g : Nat) (w : World)
    (hcl : ∀ (W : World) (k : Nat) (r : Res), Below w.heap.size w W → rs[k]? = some r → Calls Tryz.prog 51 #[.int .i64 (k : Int), .pointer (some ⟨g, 0, none⟩)] W (Wrote r W)) :
    Calls Tryz.prog 50 #[.int .i64 (n : Int), .func (Fn.func 51) #[] #[.pointer (some ⟨g, 0, none⟩)]] w (Wrote (wjoin rs) w) := by
  have Hn := Lib.hid hn
  have Hs := Lib.hid hs
  have Hcl := Lib.hid hcl
  clear hn hs hcl
  go_enter Tryz.func50, Tryz.ntmps50
  go_wp2
  go_loopw [5, 8] (fun v i wr => ∃ (k : Nat) (fs : List M.Fd), i = .int .i64 (k : Int) ∧ k ≤ n ∧ Go.RowKit.Hid (FRow wr w.heap.size v fs ∧ joined (rs.take k) = .ok fs ∧ Below w.heap.size w wr)) (fun _ i _ => n - (intOf i).toNat)
  case atStart => exact ⟨0, [], rfl, by omega, FRow.nil _ _, rfl, Below.refl _ _⟩
  case round =>
    obtain ⟨k, fs, rfl, hk, hinv⟩ := hrel
    have Hrow := Lib.hid hinv.out.1
    have Hj := Lib.hid hinv.out.2.1
    have Hbel := Lib.hid hinv.out.2.2
    clear hinv
    have Hfl := Lib.hid (joined_len _ _ Hj.out)
    by_cases hlt : k < n
    · obtain ⟨r, hr⟩ : ∃ r, rs[k]? = some r := ⟨rs[k]'(by have := Hn.out; omega), by simp⟩
      have Hr := Lib.hid hr
      have Hcall := Lib.hid (Hcl.out wr k r Hbel.out hr)
      clear hr
      cases r with
      | error c =>
        have hres : wjoin rs = .error c := by
          have h1 : joined (rs.take k ++ [.error c]) = .error c := by rw [joined_snoc, Hj.out]
          unfold wjoin
          rw [cut_snoc Hr.out, joined_err _ _ h1]
        rw [hres]
        clear hres
        go_wp2_with fail
        refine (Hcall.out).mono ?_
        intro e w2 hc
        obtain ⟨rfl, hb2⟩ := hc.no
        exact ⟨rfl, by exact Wrote.mkn (Hbel.out.trans (hb2.mono Hbel.out.size))⟩
      | ok t =>
        have Ht := Lib.hid (Hs.out t (List.mem_of_getElem? Hr.out))
        go_wp2_with fail
        refine (Hcall.out).mono ?_
        intro e w2 hc
        obtain ⟨rfl, hb2⟩ := hc.ok
        have Hrow2 := Lib.hid (Hrow.out.under hb2)
        have Hbel2 := Lib.hid (Hbel.out.trans (hb2.mono Hbel.out.size))
        have Hlen := Lib.hid (show fs.length ≤ 3518437208782 by have h1 := Hfl.out; have h2 := List.length_take_le k rs; omega)
        have Hb0 := Lib.hid (show w.heap.size ≤ w2.heap.size from Hbel2.out.size)
        clear hc hb2
        go_wp2_with (at_builtin; refine wp_app_fd rfl _ _ rfl w.heap.size _ _ rfl (Hrow2.out) (bf 1 t) (fcells 1 2 0 t) rfl _ rfl rfl Hlen.out Hb0.out ?_)
        intro v3 w3 hrow3 hgr3
        have Hrow3 := Lib.hid hrow3
        have Hbel3 := Lib.hid (Hbel2.out.trans (hgr3.below Hb0.out (fun k hk => (Hrow2.out.lt k hk).1)))
        clear hrow3 hgr3
        go_wp2
        go_roundw
        case rel => exact ⟨k + 1, fs ++ [bf 1 t], by go_num, by omega, Hrow3.out, by rw [take_snoc' Hr.out, joined_snoc, Hj.out], Hbel3.out⟩
        case measure => simp [intOf]; omega
    · have hj : joined rs = .ok fs := by
        have h := Hj.out
        rwa [List.take_of_length_le (by have := Hn.out; omega)] at h
      obtain ⟨ad, cap, hv, hfl⟩ := Hrow.out.flds (joined_fine _ _ (Hs.out.take k) Hj.out) (by have h1 := Hfl.out; have h2 := List.length_take_le k rs; omega)
      subst hv
      obtain ⟨m, hm⟩ : ∃ m, m = fs.length := ⟨_, rfl⟩
      rw [← hm]
      have hmsg := message_any wr ad cap m fs hm hfl
      have hres : wjoin rs = wrE fs := by unfold wjoin; rw [hj]
      have Hmsg := Lib.hid hmsg
      clear hmsg hm hj hfl
      cases hw : wrE fs with
      | error c =>
        rw [hw] at Hmsg
        have HRes := Lib.hid (hres.trans hw)
        clear hw hres
        go_wp2_with fail
        refine (Hmsg.out).mono ?_
        intro e w2 hc
        obtain ⟨rfl, hb2⟩ := hc.no
        exact ⟨rfl, by rw [HRes.out]; exact Wrote.mkn (Hbel.out.trans (hb2.mono Hbel.out.size))⟩
      | ok t =>
        rw [hw] at Hmsg
        have HRes := Lib.hid (hres.trans hw)
        clear hw hres
        go_wp2_with fail
        refine (Hmsg.out).mono ?_
        intro e w2 hc
        obtain ⟨rfl, hb2⟩ := hc.ok
        have Hb2 := Lib.hid (Hbel.out.trans (hb2.mono Hbel.out.size))
        clear hb2 hc
        go_wp2
        go_ret
        rw [HRes.out]
        exact Wrote.mk0 Hb2.out

set_option maxRecDepth 100000 in
set_option maxHeartbeats 4000000 in
/-- parts that the closure 97 writes -/
theorem parts_97 (rs : List Res) (n : Nat) (hn : n = rs.length) (hs : Short rs) (hn1 : n ≤ 1000000) (g : Nat) (w : World)
    (hcl : ∀ (W : World) (k : Nat) (r : Res), Below w.heap.size w W → rs[k]? = some r → Calls Tryz.prog 52 #[.int .i64 (k : Int), .pointer (some ⟨g, 0, none⟩)] W (Wrote r W)) :
    Calls Tryz.prog 50 #[.int .i64 (n : Int), .func (Fn.func 52) #[] #[.pointer (some ⟨g, 0, none⟩)]] w (Wrote (wjoin rs) w) := by
  have Hn := Lib.hid hn
  have Hs := Lib.hid hs
  have Hcl := Lib.hid hcl
  clear hn hs hcl
  go_enter Tryz.func50, Tryz.ntmps50
  go_wp2
  go_loopw [5, 8] (fun v i wr => ∃ (k : Nat) (fs : List M.Fd), i = .int .i64 (k : Int) ∧ k ≤ n ∧ Go.RowKit.Hid (FRow wr w.heap.size v fs ∧ joined (rs.take k) = .ok fs ∧ Below w.heap.size w wr)) (fun _ i _ => n - (intOf i).toNat)
  case atStart => exact ⟨0, [], rfl, by omega, FRow.nil _ _, rfl, Below.refl _ _⟩
  case round =>
    obtain ⟨k, fs, rfl, hk, hinv⟩ := hrel
    have Hrow := Lib.hid hinv.out.1
    have Hj := Lib.hid hinv.out.2.1
    have Hbel := Lib.hid hinv.out.2.2
    clear hinv
    have Hfl := Lib.hid (joined_len _ _ Hj.out)
    by_cases hlt : k < n
    · obtain ⟨r, hr⟩ : ∃ r, rs[k]? = some r := ⟨rs[k]'(by have := Hn.out; omega), by simp⟩
      have Hr := Lib.hid hr
      have Hcall := Lib.hid (Hcl.out wr k r Hbel.out hr)
      clear hr
      cases r with
      | error c =>
        have hres : wjoin rs = .error c := by
          have h1 : joined (rs.take k ++ [.error c]) = .error c := by rw [joined_snoc, Hj.out]
          unfold wjoin
          rw [cut_snoc Hr.out, joined_err _ _ h1]
        rw [hres]
        clear hres
        go_wp2_with fail
        refine (Hcall.out).mono ?_
        intro e w2 hc
        obtain ⟨rfl, hb2⟩ := hc.no
        exact ⟨rfl, by exact Wrote.mkn (Hbel.out.trans (hb2.mono Hbel.out.size))⟩
      | ok t =>
        have Ht := Lib.hid (Hs.out t (List.mem_of_getElem? Hr.out))
        go_wp2_with fail
        refine (Hcall.out).mono ?_
        intro e w2 hc
        obtain ⟨rfl, hb2⟩ := hc.ok
        have Hrow2 := Lib.hid (Hrow.out.under hb2)
        have Hbel2 := Lib.hid (Hbel.out.trans (hb2.mono Hbel.out.size))
        have Hlen := Lib.hid (show fs.length ≤ 3518437208782 by have h1 := Hfl.out; have h2 := List.length_take_le k rs; omega)
        have Hb0 := Lib.hid (show w.heap.size ≤ w2.heap.size from Hbel2.out.size)
        clear hc hb2
        go_wp2_with (at_builtin; refine wp_app_fd rfl _ _ rfl w.heap.size _ _ rfl (Hrow2.out) (bf 1 t) (fcells 1 2 0 t) rfl _ rfl rfl Hlen.out Hb0.out ?_)
        intro v3 w3 hrow3 hgr3
        have Hrow3 := Lib.hid hrow3
        have Hbel3 := Lib.hid (Hbel2.out.trans (hgr3.below Hb0.out (fun k hk => (Hrow2.out.lt k hk).1)))
        clear hrow3 hgr3
        go_wp2
        go_roundw
        case rel => exact ⟨k + 1, fs ++ [bf 1 t], by go_num, by omega, Hrow3.out, by rw [take_snoc' Hr.out, joined_snoc, Hj.out], Hbel3.out⟩
        case measure => simp [intOf]; omega
    · have hj : joined rs = .ok fs := by
        have h := Hj.out
        rwa [List.take_of_length_le (by have := Hn.out; omega)] at h
      obtain ⟨ad, cap, hv, hfl⟩ := Hrow.out.flds (joined_fine _ _ (Hs.out.take k) Hj.out) (by have h1 := Hfl.out; have h2 := List.length_take_le k rs; omega)
      subst hv
      obtain ⟨m, hm⟩ : ∃ m, m = fs.length := ⟨_, rfl⟩
      rw [← hm]
      have hmsg := message_any wr ad cap m fs hm hfl
      have hres : wjoin rs = wrE fs := by unfold wjoin; rw [hj]
      have Hmsg := Lib.hid hmsg
      clear hmsg hm hj hfl
      cases hw : wrE fs with
      | error c =>
        rw [hw] at Hmsg
        have HRes := Lib.hid (hres.trans hw)
        clear hw hres
        go_wp2_with fail
        refine (Hmsg.out).mono ?_
        intro e w2 hc
        obtain ⟨rfl, hb2⟩ := hc.no
        exact ⟨rfl, by rw [HRes.out]; exact Wrote.mkn (Hbel.out.trans (hb2.mono Hbel.out.size))⟩
      | ok t =>
        rw [hw] at Hmsg
        have HRes := Lib.hid (hres.trans hw)
        clear hw hres
        go_wp2_with fail
        refine (Hmsg.out).mono ?_
        intro e w2 hc
        obtain ⟨rfl, hb2⟩ := hc.ok
        have Hb2 := Lib.hid (Hbel.out.trans (hb2.mono Hbel.out.size))
        clear hb2 hc
        go_wp2
        go_ret
        rw [HRes.out]
        exact Wrote.mk0 Hb2.out
end Go.Proofs.YtnnnnlcpmocnfaaGreatDoor
