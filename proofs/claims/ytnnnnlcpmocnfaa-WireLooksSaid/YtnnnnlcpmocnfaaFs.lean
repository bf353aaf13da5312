/- THE WALK OVER fields. -/
import Derived.Test.YtnnnnlcpmocnfaaRow
import Derived.Test.YtnnnnlcpmocnfaaCatch
import Derived.Deep.LoopGhost
namespace Go.Proofs.Ytnnnnlcpmocnfaa
open Go.RowKit
set_option linter.unusedVariables false
set_option linter.unusedSimpArgs false

structure Inv (s : List UInt8) (w wr : World) (B0 : Nat) (rest : List UInt8) (acc : List M.Fd) (v : Value) : Prop where
  l : wr.heap[B0]? = some (.cells #[v] 31 (0, 0))
  y : wr.heap[B0 + 1]? = some (.cells #[.int .i64 0] 23 (0, 0))
  r : Rdr wr (B0 + 1 + 1) rest
  row : FRow wr (B0 + 1 + 1 + 1) v acc
  fine : ∀ f ∈ acc, Fine f
  len : acc.length + rest.length ≤ 65536
  eq : M.parse s = M.ahead acc (M.parse rest)
  bel : Below B0 w wr
theorem two_set {wr : World} {b : Nat} {v v' u u' : Value} (hl : wr.heap[b]? = some (.cells #[v] 31 (0, 0))) (hy : wr.heap[b + 1]? = some (.cells #[u] 23 (0, 0))) :
    (wr.setCell ⟨b, 0, none⟩ v').cell? ⟨b, 0, none⟩ = some v' ∧ (wr.setCell ⟨b, 0, none⟩ v').cell? ⟨b + 1, 0, none⟩ = some u ∧
    ((wr.setCell ⟨b, 0, none⟩ v').setCell ⟨b + 1, 0, none⟩ u').cell? ⟨b, 0, none⟩ = some v' ∧ ((wr.setCell ⟨b, 0, none⟩ v').setCell ⟨b + 1, 0, none⟩ u').cell? ⟨b + 1, 0, none⟩ = some u' := by
  have h1 := one_setCell (u := v') hl
  have h2 : (wr.setCell ⟨b, 0, none⟩ v').heap[b + 1]? = some (.cells #[u] 23 (0, 0)) := (Below.heap_setCell wr _ v' (b + 1) (by simp)).trans hy
  have h3 : ((wr.setCell ⟨b, 0, none⟩ v').setCell ⟨b + 1, 0, none⟩ u').heap[b]? = some (.cells #[v'] 31 (0, 0)) := (Below.heap_setCell _ _ u' b (by simp)).trans h1
  exact ⟨cell_of_one h1, cell_of_one h2, cell_of_one h3, cell_of_one (one_setCell h2)⟩
theorem FRow.mono {w : World} {base base' : Nat} {v : Value} {fs : List M.Fd} (h : FRow w base v fs) (hb : base' ≤ base) : FRow w base' v fs := by
  refine ⟨h.1, ?_⟩
  rcases h.2 with h2 | ⟨g, cap, cur, hv, hg, r⟩
  · exact .inl h2
  · exact .inr ⟨g, cap, cur, hv, Nat.le_trans hb hg, r⟩

def strLen : Option Value → Nat
  | some (.string s) => s.size
  | _ => 0
theorem strLen_mk (l : List UInt8) : strLen (some (.string ⟨l.toArray⟩)) = l.length := by simp [strLen, ByteArray.size]

/-- what fields answers -/
def FsPost (s : List UInt8) (w : World) (e : Ending) (w' : World) : Prop :=
  Below w.heap.size w w' ∧ match M.parse s with
  | .error x => e = .returned (.tuple #[.slice none 0 0, .int .i64 (x : Int)])
  | .ok fs => ∃ v, e = .returned (.tuple #[v, .int .i64 0]) ∧ FRow w' w.heap.size v fs ∧ (∀ f ∈ fs, Fine f) ∧ fs.length ≤ 65536

theorem Inv.lt {s : List UInt8} {w wr : World} {B0 : Nat} {rest : List UInt8} {acc : List M.Fd} {v : Value} (h : Inv s w wr B0 rest acc v) : B0 + 1 + 1 < wr.heap.size := h.r.lt
theorem fs_ok {s : List UInt8} {w wr : World} {acc : List M.Fd} {v : Value} (h : Inv s w wr w.heap.size [] acc v) :
    FsPost s w (.returned (.tuple #[v, .int .i64 0])) ((wr.setCell ⟨w.heap.size, 0, none⟩ v).setCell ⟨w.heap.size + 1, 0, none⟩ (.int .i64 0)) := by
  refine ⟨(h.bel.setCell (Nat.le_refl _) _).setCell (by show w.heap.size ≤ w.heap.size + 1; omega) _, ?_⟩
  rw [h.eq, M.ahead_end]
  refine ⟨v, rfl, ?_, h.fine, by have := h.len; simpa using this⟩
  exact FRow.mono (base := w.heap.size + 1 + 1 + 1) (ownsRow_setCell_below (ownsRow_setCell_below h.row (by show w.heap.size < _; omega) _) (by show w.heap.size + 1 < _; omega) _) (by omega)
theorem fs_err {s : List UInt8} {w wr w1 : World} {rest : List UInt8} {acc : List M.Fd} {v : Value} {e : Nat} (h : Inv s w wr w.heap.size rest acc v) (hne : rest ≠ []) (he : M.parse1 rest = .error e)
    (hg : wr.grownBy w1 (some (w.heap.size + 1 + 1))) :
    FsPost s w (.returned (.tuple #[.slice none 0 0, .int .i64 (e : Int)])) ((w1.setCell ⟨w.heap.size, 0, none⟩ (.slice none 0 0)).setCell ⟨w.heap.size + 1, 0, none⟩ (.int .i64 (e : Int))) := by
  refine ⟨((h.bel.grown hg (by have := h.lt; omega) (by intro k hk; injection hk with hk; omega)).setCell (Nat.le_refl _) _).setCell (by show w.heap.size ≤ w.heap.size + 1; omega) _, ?_⟩
  rw [h.eq, M.ahead_err acc hne he]

theorem step_app_fd {w : World} {ops : Array Oper} {o : Oper} {a : Act} {K : Act → World → Prop} {Q : Exit → Act → World → Prop} {E : Prop} (hgd : o.guard = none) (s x : Operand)
    (ho : o.op = .call { callee := .builtin .append, args := #[s, x], argTypes := #[31, 31] }) (base : Nat) (v : Value) (fs : List M.Fd) (hs : a.eval s = v) (hown : FRow w base v fs)
    (f : M.Fd) (cs : Array Value) (hcs : cs.toList = fc f) (hx : a.eval x = .slice (some ⟨w.heap.size, 0, none⟩) 1 1) (hlen : fs.length ≤ 1000000) (hbase : base ≤ w.heap.size)
    (h : ∀ v' w', FRow w' base v' (fs ++ [f]) → Grew w v w' v' → K (a.put o.dst v') w') :
    if Region.wanted o (yielded ops a.tmps) = true then Oper.wp Try.prog o a (w.alloc (.cells cs 39)) K Q else E := by
  have hw : Region.wanted o (yielded ops a.tmps) = true := by simp [Region.wanted, hgd]
  rw [if_pos hw]
  exact op_app_fd s x ho base v fs hs hown f cs hcs hx hlen hbase h
/-- what stands behind the append -/
structure Nxt (s : List UInt8) (w wr w2 : World) (rest r : List UInt8) (acc : List M.Fd) (f : M.Fd) (v v2 : Value) : Prop where
  l : w2.heap[w.heap.size]? = some (.cells #[v] 31 (0, 0))
  inv : Inv s w (w2.setCell ⟨w.heap.size, 0, none⟩ v2) w.heap.size r (acc ++ [f]) v2
theorem nxt {s : List UInt8} {w wr w1 w2 : World} {rest r : List UInt8} {acc : List M.Fd} {f : M.Fd} {v v2 : Value} (h : Inv s w wr w.heap.size rest acc v) (hne : rest ≠ []) (hp : M.parse1 rest = .ok (f, r)) (hf : Fine f)
    (hg : wr.grownBy w1 (some (w.heap.size + 1 + 1))) (hr : Rdr w1 (w.heap.size + 1 + 1) r) (hrow : FRow w2 (w.heap.size + 1 + 1 + 1) v2 (acc ++ [f])) (hgr : Grew w1 v w2 v2) : Nxt s w wr w2 rest r acc f v v2 := by
  have hlt := h.lt
  have hrl := h.row.lt
  have hl1 : w1.heap[w.heap.size]? = some (.cells #[v] 31 (0, 0)) := (hg.block _ (by omega) (by intro e; injection e with e; omega)).trans h.l
  have hy1 : w1.heap[w.heap.size + 1]? = some (.cells #[.int .i64 0] 23 (0, 0)) := (hg.block _ (by omega) (by intro e; injection e with e; omega)).trans h.y
  have hl2 := hgr.blk hl1 (fun k hk => by have := (hrl k hk).1; omega)
  have hy2 := hgr.blk hy1 (fun k hk => by have := (hrl k hk).1; omega)
  have hr2 : Rdr w2 (w.heap.size + 1 + 1) r := hgr.blk hr (fun k hk => by have := (hrl k hk).1; omega)
  have hb1 : Below w.heap.size w w1 := h.bel.grown hg (by omega) (by intro k hk; injection hk with hk; omega)
  have hb2 : Below w.heap.size w w2 := hb1.trans (hgr.below (by have := hg.size; omega) (fun k hk => by have := (hrl k hk).1; omega))
  have hlen := M.parse1_len hp
  refine ⟨hl2, ⟨one_setCell hl2, (Below.heap_setCell w2 _ v2 _ (by show w.heap.size + 1 ≠ w.heap.size; omega)).trans hy2, hr2.far (by omega), ownsRow_setCell_below hrow (by show w.heap.size < _; omega) _, ?_, ?_, ?_, hb2.setCell (Nat.le_refl _) _⟩⟩
  · intro g hg'
    rcases List.mem_append.1 hg' with h1 | h1
    · exact h.fine g h1
    · simp at h1; subst h1; exact hf
  · have := h.len; simp only [List.length_append, List.length_cons, List.length_nil]; omega
  · rw [h.eq, M.ahead_ok acc hne hp]

set_option maxHeartbeats 8000000 in
theorem fields_any (s : List UInt8) (w : World) (hs : s.length ≤ 65536) :
    Calls Try.prog 36 #[.string ⟨s.toArray⟩] w (FsPost s w) := by
  have hmf : ∀ (fn : Fn) (first cap : Array Value) (w : World), (Instr.makeFunc fn first cap).run Try.prog w = .ok (.func fn first cap) w := fun _ _ _ _ => rfl
  go_enter_defers Try.func36, Try.ntmps36
  go_wp2
  go_loopw [] (fun wr => ∃ rest acc v, Inv s w wr w.heap.size rest acc v) (fun wr => strLen (wr.cell? ⟨w.heap.size + 1 + 1, 0, none⟩))
  case atStart =>
    exact ⟨s, [], .slice none 0 0, blk_alloc (blk_alloc (blk_new w _) _) _, blk_alloc (by simpa using blk_new (w.alloc (.cells #[Value.slice none 0 0] 31)) (.cells #[Value.int .i64 0] 23)) _, (by simpa [Rdr] using blk_new ((w.alloc (.cells #[Value.slice none 0 0] 31)).alloc (.cells #[Value.int .i64 0] 23)) (.cells #[Value.string ⟨s.toArray⟩] 64)), FRow.nil _ _, (by intro f hf; cases hf), (by simpa using hs), (by rw [M.ahead_nil]),
      (((Below.refl _ _).alloc (Nat.le_refl _) _).alloc (by simp) _).alloc (by simp; omega) _⟩
  case round =>
    obtain ⟨rest, acc, v, hinv⟩ := hrel
    have hc := hinv.r.cell
    have hcl := cell_of_one hinv.l
    have hfl := free_of_one hinv.l
    have hcy := cell_of_one hinv.y
    have hfy := free_of_one hinv.y
    have HI := Lib.hid hinv
    clear hinv
    cases rest with
    | nil =>
      have hv : ∃ ad n cap, v = .slice ad n cap := by obtain ⟨ad, cap, e⟩ := HI.out.row.form; exact ⟨_, _, _, e⟩
      obtain ⟨ad, n, cap, rfl⟩ := hv
      go_wp2
      refine leaves_cons (f := 42) (args := #[.pointer (some ⟨w.heap.size, 0, none⟩), .pointer (some ⟨w.heap.size + 1, 0, none⟩)]) (by simp) (by simp [go_sem]) ?_
      refine (catch_idle _ _ _).mono ?_
      rintro e u' w'' ⟨rfl, rfl, rfl⟩
      obtain ⟨k1, k2, k3, k4⟩ := two_set (v' := .slice ad n cap) (u' := .int .i64 0) HI.out.l HI.out.y
      simp [Leaves, settle, results, Try.results36, go_sem, k1, k2, k3, k4]
      exact fs_ok HI.out
    | cons x t =>
      have hne : x :: t ≠ [] := by simp
      have hl65 : (x :: t).length ≤ 65536 := by have := HI.out.len; omega
      cases hp : M.parse1 (x :: t) with
      | error e =>
        have hcall := fun W h => field_err (w.heap.size + 1 + 1) (x :: t) W hl65 h e hp
        have Hcall := Lib.hid hcall
        have Hp := Lib.hid hp
        clear hcall hp
        go_wp2
        refine wp_region_any (by kernel_rfl) ?_
        refine wpAny_ready (rs := [0, 1]) (by kernel_rfl) (by simp) ?_
        refine AllReady.cons rfl (fun K hK => ?_) ?_
        · go_simp
          refine hK _ _ ?_
          clear hK K
          refine wpAny_ready (rs := [1]) (by kernel_rfl) (by simp) ?_
          refine AllReady.cons rfl (fun K hK => ?_) AllReady.nil
          go_simp
          refine (Hcall.out wr.drew (show Rdr wr.drew _ _ from HI.out.r)).mono ?_
          rintro e' w1 ⟨rfl, hg⟩
          have hg' : wr.grownBy w1 (some (w.heap.size + 1 + 1)) := ⟨hg.os, hg.tape, hg.output, hg.size, hg.block⟩
          have hl1 : w1.heap[w.heap.size]? = some (.cells #[v] 31 (0, 0)) := (hg'.block _ (by have := HI.out.lt; omega) (by intro e; injection e with e; omega)).trans HI.out.l
          have hy1 : w1.heap[w.heap.size + 1]? = some (.cells #[.int .i64 0] 23 (0, 0)) := (hg'.block _ (by have := HI.out.lt; omega) (by intro e; injection e with e; omega)).trans HI.out.y
          obtain ⟨k1, k2, k3, k4⟩ := two_set (v' := .slice none 0 0) (u' := .int .i64 (e : Int)) hl1 hy1
          have fin := fs_err HI.out hne Hp.out hg'
          have Fin := Lib.hid fin
          have kc := cell_of_one hl1
          have kf := free_of_one hl1
          have kfy := free_of_one hy1
          clear fin hg hg' hl1 hy1 hcl hfl hcy hfy hc
          go_wp2
          refine leaves_cons (f := 42) (args := #[.pointer (some ⟨w.heap.size, 0, none⟩), .pointer (some ⟨w.heap.size + 1, 0, none⟩)]) (by simp) (by simp [go_sem]) ?_
          refine (catch_pan _ _ _ v 0 [] _ kc kf k2 (by simp [kfy])).mono ?_
          rintro e' u' w'' ⟨rfl, rfl, rfl⟩
          simp [Leaves, settle, results, Try.results36, go_sem, k1, k2, k3, k4]
          exact Fin.out
        · refine AllReady.cons rfl (fun K hK => ?_) AllReady.nil
          go_simp
          refine (Hcall.out wr.drew (show Rdr wr.drew _ _ from HI.out.r)).mono ?_
          rintro e' w1 ⟨rfl, hg⟩
          have hg' : wr.grownBy w1 (some (w.heap.size + 1 + 1)) := ⟨hg.os, hg.tape, hg.output, hg.size, hg.block⟩
          have hl1 : w1.heap[w.heap.size]? = some (.cells #[v] 31 (0, 0)) := (hg'.block _ (by have := HI.out.lt; omega) (by intro e; injection e with e; omega)).trans HI.out.l
          have hy1 : w1.heap[w.heap.size + 1]? = some (.cells #[.int .i64 0] 23 (0, 0)) := (hg'.block _ (by have := HI.out.lt; omega) (by intro e; injection e with e; omega)).trans HI.out.y
          obtain ⟨k1, k2, k3, k4⟩ := two_set (v' := .slice none 0 0) (u' := .int .i64 (e : Int)) hl1 hy1
          have fin := fs_err HI.out hne Hp.out hg'
          have Fin := Lib.hid fin
          have kc := cell_of_one hl1
          have kf := free_of_one hl1
          have kfy := free_of_one hy1
          clear fin hg hg' hl1 hy1 hcl hfl hcy hfy hc
          go_wp2
          refine leaves_cons (f := 42) (args := #[.pointer (some ⟨w.heap.size, 0, none⟩), .pointer (some ⟨w.heap.size + 1, 0, none⟩)]) (by simp) (by simp [go_sem]) ?_
          refine (catch_pan _ _ _ v 0 [] _ kc kf k2 (by simp [kfy])).mono ?_
          rintro e' u' w'' ⟨rfl, rfl, rfl⟩
          simp [Leaves, settle, results, Try.results36, go_sem, k1, k2, k3, k4]
          exact Fin.out
      | ok p =>
        obtain ⟨f, r⟩ := p
        have hfit : Fine f := by obtain ⟨a, b, c, z, hfit, _⟩ := field_good (w.heap.size + 1 + 1) (x :: t) wr hl65 HI.out.r f r hp; exact ⟨a, b, c, z, hfit⟩
        have hcall : ∃ a b c z, Fit f a b c z ∧ ∀ W, Rdr W (w.heap.size + 1 + 1) (x :: t) → Calls Try.prog 43 #[.pointer (some ⟨w.heap.size + 1 + 1, 0, none⟩)] W fun en w' => en = .returned (.agg (fcells a b c z)) ∧ Rdr w' (w.heap.size + 1 + 1) r ∧ W.grownBy w' (some (w.heap.size + 1 + 1)) := by
          obtain ⟨a, b, c, z, hfit⟩ := hfit
          refine ⟨a, b, c, z, hfit, fun W hW => ?_⟩
          obtain ⟨a', b', c', z', hfit', hc'⟩ := field_good (w.heap.size + 1 + 1) (x :: t) W hl65 hW f r hp
          have e := hfit.uniq hfit'
          obtain ⟨rfl, rfl, rfl, rfl⟩ := e
          exact hc'
        obtain ⟨a, b, c, z, hft, hcall⟩ := hcall
        have Hcall := Lib.hid hcall
        have Hp := Lib.hid hp
        have Hfine := Lib.hid hfit
        have Hfc := Lib.hid (fc_fit hft)
        have hacc : acc.length ≤ 1000000 := by have := HI.out.len; omega
        have Hacc := Lib.hid hacc
        clear hcall hp hfit hft hacc
        go_wp2
        refine wp_region_any (by kernel_rfl) ?_
        refine wpAny_ready (rs := [0, 1]) (by kernel_rfl) (by simp) ?_
        refine AllReady.cons rfl (fun K hK => ?_) ?_
        · go_simp
          refine hK _ _ ?_
          clear hK K
          refine wpAny_ready (rs := [1]) (by kernel_rfl) (by simp) ?_
          refine AllReady.cons rfl (fun K hK => ?_) AllReady.nil
          go_simp
          refine (Hcall.out wr.drew (show Rdr wr.drew _ _ from HI.out.r)).mono ?_
          rintro e' w1 ⟨rfl, hr1, hg⟩
          have hg' : wr.grownBy w1 (some (w.heap.size + 1 + 1)) := ⟨hg.os, hg.tape, hg.output, hg.size, hg.block⟩
          have hl1 : w1.heap[w.heap.size]? = some (.cells #[v] 31 (0, 0)) := (hg'.block _ (by have := HI.out.lt; omega) (by intro e; injection e with e; omega)).trans HI.out.l
          have kc := cell_of_one hl1
          have hrow1 := HI.out.row.below (by omega) hg'
          have hlt1 : w.heap.size + 1 + 1 + 1 ≤ w1.heap.size := by have := HI.out.lt; have := hg'.size; omega
          have hltw : w.heap.size < w1.heap.size := by omega
          have Hr1 := Lib.hid hr1
          have Hg' := Lib.hid hg'
          have Hrow1 := Lib.hid hrow1
          have Hlt1 := Lib.hid hlt1
          clear hr1 hg hg' hl1 hrow1 hlt1
          go_simp
          refine hK _ _ ?_
          clear hK K
          refine wpAny_ready (rs := [2]) (by kernel_rfl) (by simp) ?_
          refine AllReady.cons rfl (fun K hK => ?_) AllReady.nil
          go_simp
          refine hK _ _ ?_
          clear hK K
          refine wpAny_ready (rs := [3]) (by kernel_rfl) (by simp) ?_
          refine AllReady.cons rfl (fun K hK => ?_) AllReady.nil
          refine step_app_fd rfl (.tmp 11) (.tmp 13) rfl (w.heap.size + 1 + 1 + 1) v acc (by rfl) Hrow1.out f (fcells a b c z) Hfc.out (by rfl) Hacc.out Hlt1.out ?_
          intro v2 w2 hrow2 hgr2
          have hn := nxt HI.out hne Hp.out Hfine.out Hg'.out Hr1.out hrow2 hgr2
          obtain ⟨ad2, cap2, rfl⟩ := hrow2.form
          have kc2 := cell_of_one hn.l
          have kf2 := free_of_one hn.l
          have Hn := Lib.hid hn
          clear hn hrow2 hgr2
          refine hK _ _ ?_
          clear hK K
          refine wpAny_ready (rs := [4]) (by kernel_rfl) (by simp) ?_
          refine AllReady.cons rfl (fun K hK => ?_) AllReady.nil
          go_simp
          refine hK _ _ ?_
          clear hK K
          refine wpAny_done (by kernel_rfl) ?_ _
          go_wp2
          have hi := Hn.out.inv
          rw [show (acc ++ [f]).length = acc.length + 1 by simp] at hi
          refine ⟨⟨r, acc ++ [f], _, hi⟩, ?_⟩
          rw [hi.r.cell, HI.out.r.cell, strLen_mk, strLen_mk]
          exact M.parse1_len Hp.out
        · refine AllReady.cons rfl (fun K hK => ?_) AllReady.nil
          go_simp
          refine (Hcall.out wr.drew (show Rdr wr.drew _ _ from HI.out.r)).mono ?_
          rintro e' w1 ⟨rfl, hr1, hg⟩
          have hg' : wr.grownBy w1 (some (w.heap.size + 1 + 1)) := ⟨hg.os, hg.tape, hg.output, hg.size, hg.block⟩
          have hl1 : w1.heap[w.heap.size]? = some (.cells #[v] 31 (0, 0)) := (hg'.block _ (by have := HI.out.lt; omega) (by intro e; injection e with e; omega)).trans HI.out.l
          have kc := cell_of_one hl1
          have hrow1 := HI.out.row.below (by omega) hg'
          have hlt1 : w.heap.size + 1 + 1 + 1 ≤ w1.heap.size := by have := HI.out.lt; have := hg'.size; omega
          have hltw : w.heap.size < w1.heap.size := by omega
          have Hr1 := Lib.hid hr1
          have Hg' := Lib.hid hg'
          have Hrow1 := Lib.hid hrow1
          have Hlt1 := Lib.hid hlt1
          clear hr1 hg hg' hl1 hrow1 hlt1
          go_simp
          refine hK _ _ ?_
          clear hK K
          refine wpAny_ready (rs := [0, 2]) (by kernel_rfl) (by simp) ?_
          refine AllReady.cons rfl (fun K hK => ?_) ?_
          · go_simp
            refine hK _ _ ?_
            clear hK K
            refine wpAny_ready (rs := [2]) (by kernel_rfl) (by simp) ?_
            refine AllReady.cons rfl (fun K hK => ?_) AllReady.nil
            go_simp
            refine hK _ _ ?_
            clear hK K
            refine wpAny_ready (rs := [3]) (by kernel_rfl) (by simp) ?_
            refine AllReady.cons rfl (fun K hK => ?_) AllReady.nil
            refine step_app_fd rfl (.tmp 11) (.tmp 13) rfl (w.heap.size + 1 + 1 + 1) v acc (by rfl) Hrow1.out f (fcells a b c z) Hfc.out (by rfl) Hacc.out Hlt1.out ?_
            intro v2 w2 hrow2 hgr2
            have hn := nxt HI.out hne Hp.out Hfine.out Hg'.out Hr1.out hrow2 hgr2
            obtain ⟨ad2, cap2, rfl⟩ := hrow2.form
            have kc2 := cell_of_one hn.l
            have kf2 := free_of_one hn.l
            have Hn := Lib.hid hn
            clear hn hrow2 hgr2
            refine hK _ _ ?_
            clear hK K
            refine wpAny_ready (rs := [4]) (by kernel_rfl) (by simp) ?_
            refine AllReady.cons rfl (fun K hK => ?_) AllReady.nil
            go_simp
            refine hK _ _ ?_
            clear hK K
            refine wpAny_done (by kernel_rfl) ?_ _
            go_wp2
            have hi := Hn.out.inv
            rw [show (acc ++ [f]).length = acc.length + 1 by simp] at hi
            refine ⟨⟨r, acc ++ [f], _, hi⟩, ?_⟩
            rw [hi.r.cell, HI.out.r.cell, strLen_mk, strLen_mk]
            exact M.parse1_len Hp.out
          · refine AllReady.cons rfl (fun K hK => ?_) AllReady.nil
            go_simp
            refine hK _ _ ?_
            clear hK K
            refine wpAny_ready (rs := [0]) (by kernel_rfl) (by simp) ?_
            refine AllReady.cons rfl (fun K hK => ?_) AllReady.nil
            go_simp
            refine hK _ _ ?_
            clear hK K
            refine wpAny_ready (rs := [3]) (by kernel_rfl) (by simp) ?_
            refine AllReady.cons rfl (fun K hK => ?_) AllReady.nil
            refine step_app_fd rfl (.tmp 11) (.tmp 13) rfl (w.heap.size + 1 + 1 + 1) v acc (by rfl) Hrow1.out f (fcells a b c z) Hfc.out (by rfl) Hacc.out Hlt1.out ?_
            intro v2 w2 hrow2 hgr2
            have hn := nxt HI.out hne Hp.out Hfine.out Hg'.out Hr1.out hrow2 hgr2
            obtain ⟨ad2, cap2, rfl⟩ := hrow2.form
            have kc2 := cell_of_one hn.l
            have kf2 := free_of_one hn.l
            have Hn := Lib.hid hn
            clear hn hrow2 hgr2
            refine hK _ _ ?_
            clear hK K
            refine wpAny_ready (rs := [4]) (by kernel_rfl) (by simp) ?_
            refine AllReady.cons rfl (fun K hK => ?_) AllReady.nil
            go_simp
            refine hK _ _ ?_
            clear hK K
            refine wpAny_done (by kernel_rfl) ?_ _
            go_wp2
            have hi := Hn.out.inv
            rw [show (acc ++ [f]).length = acc.length + 1 by simp] at hi
            refine ⟨⟨r, acc ++ [f], _, hi⟩, ?_⟩
            rw [hi.r.cell, HI.out.r.cell, strLen_mk, strLen_mk]
            exact M.parse1_len Hp.out
end Go.Proofs.Ytnnnnlcpmocnfaa
