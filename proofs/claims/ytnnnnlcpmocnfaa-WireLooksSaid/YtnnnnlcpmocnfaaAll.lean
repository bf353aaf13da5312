/- THE WALKS OVER All and Last, the program's and the document's. -/
import Derived.Test.YtnnnnlcpmocnfaaRow
namespace Go.Proofs.Ytnnnnlcpmocnfaa
open Go.RowKit
set_option linter.unusedVariables false
set_option linter.unusedSimpArgs false

/-- is it of that number and wire -/
def pick (num : Int) (wire : Nat) (f : M.Fd) : Bool := decide (f.num = num) && decide (f.wire = wire)
theorem pick_fit {f : M.Fd} {a b c : Int} {l : List UInt8} (h : Fit f a b c l) (num wb : Int) (hw : 0 ≤ wb) : pick num wb.toNat f = (decide (a = num) && decide (b = wb)) := by
  rw [h.e]
  have := h.b0
  unfold pick
  congr 1
  simp only [decide_eq_decide]
  omega
def allOf (num : Int) (wire : Nat) (fs : List M.Fd) : List M.Fd := fs.filter (pick num wire)
def lastOf (num : Int) (wire : Nat) (fs : List M.Fd) : Option M.Fd := (allOf num wire fs).getLast?
theorem allOf_snoc (num : Int) (wire : Nat) (fs : List M.Fd) (f : M.Fd) : allOf num wire (fs ++ [f]) = allOf num wire fs ++ (if pick num wire f then [f] else []) := by
  unfold allOf
  rw [List.filter_append]
  congr 1
  cases h : pick num wire f <;> simp [h]
theorem allOf_len (num : Int) (wire : Nat) (fs : List M.Fd) : (allOf num wire fs).length ≤ fs.length := List.length_filter_le _ _
theorem take_snoc_get {fs : List M.Fd} {k : Nat} {f : M.Fd} (h : fs[k]? = some f) : fs.take (k + 1) = fs.take k ++ [f] := by rw [List.take_add_one, h]; rfl

theorem wp_app_fd {w : World} {ops : Array Oper} {rest : List Oper} {o : Oper} {a : Act} {Q : Exit → Act → World → Prop} (hgd : o.guard = none) (s x : Operand)
    (ho : o.op = .call { callee := .builtin .append, args := #[s, x], argTypes := #[31, 31] }) (base : Nat) (v : Value) (fs : List M.Fd) (hs : a.eval s = v) (hown : FRow w base v fs)
    (f : M.Fd) (cs : Array Value) (hcs : cs.toList = fc f) (g0 : Nat) (hx : a.eval x = .slice (some ⟨g0, 0, none⟩) 1 1) (hg0 : g0 = w.heap.size) (hlen : fs.length ≤ 3518437208782) (hbase : base ≤ w.heap.size)
    (h : ∀ v' w', FRow w' base v' (fs ++ [f]) → Grew w v w' v' → wpList Try.prog ops Q rest (a.put o.dst v') w') : wpList Try.prog ops Q (o :: rest) a (w.alloc (.cells cs 39)) := by
  subst hg0
  refine wpList_plain hgd fun K hK => ?_
  obtain ⟨i0, hi, hz0, hz1, hz2⟩ := info_parts Try.info39
  obtain ⟨v', w', hr, h2, h3, _, h5⟩ := run_append_own_at (P := Try.prog) (w.alloc (.cells cs 39)) base 31 o.type 39 i0 _ 4 40 Try.underlying31 hi hz0 hz1 hz2 rfl (by decide) v fs.length (fs.flatMap fc) (World.ownsRow.alloc hown _)
    ⟨w.heap.size, 0, none⟩ 1 1 (fc f) rfl
    (by
      intro j u hu
      have e : (⟨w.heap.size, 0, none⟩ : Addr).add j = ⟨w.heap.size, j, none⟩ := by unfold Addr.add; split <;> simp_all
      rw [e, cell_of_row _ w.heap.size j cs 39 (0, 0) (heap_alloc_new w _), ← Array.getElem?_toList, hcs]
      exact hu)
    (by intro u hu; exact fc_one [f] u (by simpa using hu)) (by unfold maxLen; omega) (by omega) (by simp; omega)
  unfold Oper.wp execOp
  simp only [ho, resolve, invoke, builtin, Sem.run_bind, Sem.run_pure, Result.andThen_ok, List.map_toArray, List.map_cons, List.map_nil, hs, hx, hr]
  refine hK _ _ (h v' w' ?_ (((Grew.refl w v).alloc _).step h3 h5))
  unfold FRow
  rw [List.length_append, List.flatMap_append]
  simpa using h2

set_option maxHeartbeats 4000000 in
theorem all_any (w : World) (ad : Option Addr) (n cap : Nat) (num wb : Int) (fs : List M.Fd) (hn : n = fs.length) (hfl : Flds w w.heap.size ad fs) (hsz : n ≤ 3518437208780) (hw0 : 0 ≤ wb) (hw1 : wb ≤ 255) :
    Calls Try.prog 29 #[.slice ad n cap, .int .i64 num, .int .u8 wb] w fun e w' => ∃ v, e = .returned v ∧ FRow w' w.heap.size v (allOf num wb.toNat fs) ∧ Below w.heap.size w w' := by
  have Hn := Lib.hid hn
  have Hfl := Lib.hid hfl
  clear hn hfl
  go_enter Try.func29, Try.ntmps29
  go_wp2
  go_loopw [7, 12] (fun v i wr => ∃ (j : Nat), i = .int .i64 (j : Int) ∧ j ≤ n ∧ FRow wr w.heap.size v (allOf num wb.toNat (fs.take j)) ∧ Below w.heap.size w wr) (fun _ i _ => n - (intOf i).toNat)
  case atStart => exact ⟨0, rfl, by omega, FRow.nil _ _, Below.refl _ _⟩
  case round =>
    obtain ⟨j, rfl, hj, hrow, hbel⟩ := hrel
    have Hrow := Lib.hid hrow
    have Hbel := Lib.hid hbel
    clear hrow hbel
    by_cases hlt : j < n
    · have hne : fs ≠ [] := by rintro rfl; have := Hn.out; simp at this; omega
      obtain ⟨g, off, rfl, hg, hi⟩ := (Hfl.out.keep Hbel.out).2 hne
      obtain ⟨f, hf⟩ : ∃ f, fs[j]? = some f := ⟨fs[j]'(by have := Hn.out; omega), by simp⟩
      obtain ⟨a, b, c, l, hfit, q⟩ := hi j f hf
      obtain ⟨q0, q1, q2, q3⟩ := q
      have hp := pick_fit hfit num wb hw0
      have hnext := allOf_snoc num wb.toNat (fs.take j) f
      rw [← take_snoc_get hf, hp] at hnext
      have hlen : (allOf num wb.toNat (fs.take j)).length ≤ 3518437208782 := by
        have h1 := allOf_len num wb.toNat (fs.take j)
        have h2 := List.length_take_le j fs
        omega
      have Hfc := Lib.hid (fc_fit hfit)
      have Hlen := Lib.hid hlen
      have Hs := Lib.hid (show w.heap.size ≤ (wr.alloc (.cells (fcells a b c l) 39)).heap.size by have := Hbel.out.size; simp; omega)
      by_cases ha : a = num
      · by_cases hb : b = wb
        · rw [if_pos (by simp [ha, hb])] at hnext
          have hab : (a == num) = true := by simp [ha]
          have hbb : (b == wb) = true := by simp [hb]
          have Hnext := Lib.hid hnext
          clear hnext hp hlen hfit hf hi hne hg ha hb
          go_wp2_with (at_builtin; refine wp_app_fd rfl _ _ rfl w.heap.size _ _ rfl (Hrow.out.alloc _) f (fcells a b c l) Hfc.out _ rfl (by simp) Hlen.out Hs.out ?_)
          intro v2 w2 hrow2 hgr2
          have Hrow2 := Lib.hid hrow2
          have Hb2 := Lib.hid ((Hbel.out.alloc Hbel.out.size _).trans (hgr2.below Hs.out (fun k hk => (Hrow.out.lt k hk).1)))
          clear hrow2 hgr2
          go_wp2
          go_roundw
          case rel => exact ⟨j + 1, by go_num, by omega, by rw [Hnext.out]; exact Hrow2.out, Hb2.out⟩
          case measure => simp [intOf]; omega
        · rw [if_neg (by simp [hb])] at hnext
          have hab : (a == num) = true := by simp [ha]
          have hbb : (b == wb) = false := by simp [hb]
          rw [List.append_nil] at hnext
          have Hnext := Lib.hid hnext
          clear hnext hp hlen hfit hf hi hne hg ha hb
          go_wp2
          go_roundw
          case rel => exact ⟨j + 1, by go_num, by omega, by rw [Hnext.out]; exact Hrow.out.alloc _, Hbel.out.alloc Hbel.out.size _⟩
          case measure => simp [intOf]; omega
      · rw [if_neg (by simp [ha])] at hnext
        have hab : (a == num) = false := by simp [ha]
        rw [List.append_nil] at hnext
        have Hnext := Lib.hid hnext
        clear hnext hp hlen hfit hf hi hne hg ha
        go_wp2
        go_roundw
        case rel => exact ⟨j + 1, by go_num, by omega, by rw [Hnext.out]; exact Hrow.out.alloc _, Hbel.out.alloc Hbel.out.size _⟩
        case measure => simp [intOf]; omega
    · have hr := Hrow.out
      rw [List.take_of_length_le (by have := Hn.out; omega)] at hr
      have Hr := Lib.hid hr
      clear hr
      go_wp2
      go_ret
      exact ⟨_, rfl, Hr.out, Hbel.out⟩

set_option maxHeartbeats 4000000 in
theorem rall_any (w : World) (ad : Option Addr) (n cap : Nat) (num wb : Int) (fs : List M.Fd) (hn : n = fs.length) (hfl : Flds w w.heap.size ad fs) (hsz : n ≤ 3518437208780) (hw0 : 0 ≤ wb) (hw1 : wb ≤ 255) :
    Calls Try.prog 30 #[.slice ad n cap, .int .i64 num, .int .u8 wb] w fun e w' => ∃ v, e = .returned v ∧ FRow w' w.heap.size v (allOf num wb.toNat fs) ∧ Below w.heap.size w w' := by
  have Hn := Lib.hid hn
  have Hfl := Lib.hid hfl
  clear hn hfl
  go_enter Try.func30, Try.ntmps30
  go_wp2
  go_loopw [7, 12] (fun v i wr => ∃ (j : Nat), i = .int .i64 (j : Int) ∧ j ≤ n ∧ FRow wr w.heap.size v (allOf num wb.toNat (fs.take j)) ∧ Below w.heap.size w wr) (fun _ i _ => n - (intOf i).toNat)
  case atStart => exact ⟨0, rfl, by omega, FRow.nil _ _, Below.refl _ _⟩
  case round =>
    obtain ⟨j, rfl, hj, hrow, hbel⟩ := hrel
    have Hrow := Lib.hid hrow
    have Hbel := Lib.hid hbel
    clear hrow hbel
    by_cases hlt : j < n
    · have hne : fs ≠ [] := by rintro rfl; have := Hn.out; simp at this; omega
      obtain ⟨g, off, rfl, hg, hi⟩ := (Hfl.out.keep Hbel.out).2 hne
      obtain ⟨f, hf⟩ : ∃ f, fs[j]? = some f := ⟨fs[j]'(by have := Hn.out; omega), by simp⟩
      obtain ⟨a, b, c, l, hfit, q⟩ := hi j f hf
      obtain ⟨q0, q1, q2, q3⟩ := q
      have hp := pick_fit hfit num wb hw0
      have hnext := allOf_snoc num wb.toNat (fs.take j) f
      rw [← take_snoc_get hf, hp] at hnext
      have hlen : (allOf num wb.toNat (fs.take j)).length ≤ 3518437208782 := by
        have h1 := allOf_len num wb.toNat (fs.take j)
        have h2 := List.length_take_le j fs
        omega
      have Hfc := Lib.hid (fc_fit hfit)
      have Hlen := Lib.hid hlen
      have Hs := Lib.hid (show w.heap.size ≤ (wr.alloc (.cells (fcells a b c l) 39)).heap.size by have := Hbel.out.size; simp; omega)
      by_cases ha : a = num
      · by_cases hb : b = wb
        · rw [if_pos (by simp [ha, hb])] at hnext
          have hab : (a == num) = true := by simp [ha]
          have hbb : (b == wb) = true := by simp [hb]
          have Hnext := Lib.hid hnext
          clear hnext hp hlen hfit hf hi hne hg ha hb
          go_wp2_with (at_builtin; refine wp_app_fd rfl _ _ rfl w.heap.size _ _ rfl (Hrow.out.alloc _) f (fcells a b c l) Hfc.out _ rfl (by simp) Hlen.out Hs.out ?_)
          intro v2 w2 hrow2 hgr2
          have Hrow2 := Lib.hid hrow2
          have Hb2 := Lib.hid ((Hbel.out.alloc Hbel.out.size _).trans (hgr2.below Hs.out (fun k hk => (Hrow.out.lt k hk).1)))
          clear hrow2 hgr2
          go_wp2
          go_roundw
          case rel => exact ⟨j + 1, by go_num, by omega, by rw [Hnext.out]; exact Hrow2.out, Hb2.out⟩
          case measure => simp [intOf]; omega
        · rw [if_neg (by simp [hb])] at hnext
          have hab : (a == num) = true := by simp [ha]
          have hbb : (b == wb) = false := by simp [hb]
          rw [List.append_nil] at hnext
          have Hnext := Lib.hid hnext
          clear hnext hp hlen hfit hf hi hne hg ha hb
          go_wp2
          go_roundw
          case rel => exact ⟨j + 1, by go_num, by omega, by rw [Hnext.out]; exact Hrow.out.alloc _, Hbel.out.alloc Hbel.out.size _⟩
          case measure => simp [intOf]; omega
      · rw [if_neg (by simp [ha])] at hnext
        have hab : (a == num) = false := by simp [ha]
        rw [List.append_nil] at hnext
        have Hnext := Lib.hid hnext
        clear hnext hp hlen hfit hf hi hne hg ha
        go_wp2
        go_roundw
        case rel => exact ⟨j + 1, by go_num, by omega, by rw [Hnext.out]; exact Hrow.out.alloc _, Hbel.out.alloc Hbel.out.size _⟩
        case measure => simp [intOf]; omega
    · have hr := Hrow.out
      rw [List.take_of_length_le (by have := Hn.out; omega)] at hr
      have Hr := Lib.hid hr
      clear hr
      go_wp2
      go_ret
      exact ⟨_, rfl, Hr.out, Hbel.out⟩

/-- what Last answers -/
def lastVal : Option M.Fd → Value
  | some f => .tuple #[.agg (fc f).toArray, .bool true]
  | none => .tuple #[.agg #[.int .i64 0, .int .u8 0, .int .u64 0, .string ⟨#[]⟩], .bool false]
theorem lastOf_snoc (num : Int) (wire : Nat) (fs : List M.Fd) (f : M.Fd) : lastOf num wire (fs ++ [f]) = if pick num wire f then some f else lastOf num wire fs := by
  unfold lastOf
  rw [allOf_snoc]
  cases pick num wire f <;> simp

set_option maxHeartbeats 4000000 in
theorem last_any (w : World) (ad : Option Addr) (n cap : Nat) (num wb : Int) (fs : List M.Fd) (hn : n = fs.length) (hfl : Flds w w.heap.size ad fs) (hw0 : 0 ≤ wb) (hw1 : wb ≤ 255) :
    Calls Try.prog 27 #[.slice ad n cap, .int .i64 num, .int .u8 wb] w fun e w' => e = .returned (lastVal (lastOf num wb.toNat fs)) ∧ Below w.heap.size w w' := by
  have hn63 : n ≤ 9223372036854775807 := by rw [hn]; exact hfl.1
  obtain ⟨R, hR⟩ : ∃ R, R = lastOf num wb.toNat fs := ⟨_, rfl⟩
  rw [← hR]
  have HR := Lib.hid hR
  have Hn := Lib.hid hn
  have Hfl := Lib.hid ((hfl.keep ((Below.refl _ w).alloc (Nat.le_refl _) (.cells #[.int .i64 0, .int .u8 0, .int .u64 0, .string ⟨#[]⟩] 39))))
  clear hn hfl hR
  go_enter Try.func27, Try.ntmps27
  go_wp2
  go_loop [8] (fun i => ∃ (x : Int), i = .int .i64 x ∧ -1 ≤ x ∧ x < n ∧ R = lastOf num wb.toNat (fs.take (x + 1).toNat)) (fun i => (intOf i + 1).toNat)
  case atStart => exact ⟨(n : Int) - 1, rfl, by omega, by omega, by rw [HR.out, show ((n : Int) - 1 + 1).toNat = n by omega, List.take_of_length_le (by have := Hn.out; omega)]⟩
  case round =>
    obtain ⟨x, rfl, hx1, hx2, hlast⟩ := hrel
    by_cases hx0 : 0 ≤ x
    · obtain ⟨j, rfl⟩ := Int.eq_ofNat_of_zero_le hx0
      have hjn : j < n := by omega
      have hne : fs ≠ [] := by rintro rfl; have := Hn.out; simp at this; omega
      obtain ⟨g, off, rfl, hg, hi⟩ := Hfl.out.2 hne
      obtain ⟨f, hf⟩ : ∃ f, fs[j]? = some f := ⟨fs[j]'(by have := Hn.out; omega), by simp⟩
      obtain ⟨a, b, c, l, hfit, q⟩ := hi j f hf
      obtain ⟨q0, q1, q2, q3⟩ := q
      have hp := pick_fit hfit num wb hw0
      rw [show ((j : Int) + 1).toNat = j + 1 by omega, take_snoc_get hf, lastOf_snoc, hp] at hlast
      have Hfc := Lib.hid (fc_fit hfit)
      have hj1 : ((j : Int) - 1 + 1).toNat = j := by omega
      have Hj1 := Lib.hid hj1
      by_cases ha : a = num
      · by_cases hb : b = wb
        · rw [if_pos (by simp [ha, hb])] at hlast
          have hab : (a == num) = true := by simp [ha]
          have hbb : (b == wb) = true := by simp [hb]
          have Hlast := Lib.hid hlast
          clear hlast hp hfit hf hi hne hg ha hb hj1
          go_wp2
          refine bodyPost_ret (v := .tuple #[.agg (fcells a b c l), .bool true]) (by simp [results, Try.results27, go_sem]) rfl ⟨?_, ?_⟩
          · rw [Hlast.out, lastVal, ← Hfc.out]
          · exact (Below.refl _ w).alloc (Nat.le_refl _) _
        · rw [if_neg (by simp [hb])] at hlast
          have hab : (a == num) = true := by simp [ha]
          have hbb : (b == wb) = false := by simp [hb]
          have Hlast := Lib.hid hlast
          clear hlast hp hfit hf hi hne hg ha hb hj1
          go_wp2
          go_round
          case rel => exact ⟨(j : Int) - 1, rfl, by omega, by omega, by rw [Hj1.out]; exact Hlast.out⟩
          case measure => first | (simp [intOf]; done) | (simp [intOf]; omega)
      · rw [if_neg (by simp [ha])] at hlast
        have hab : (a == num) = false := by simp [ha]
        have Hlast := Lib.hid hlast
        clear hlast hp hfit hf hi hne hg ha hj1
        go_wp2
        go_round
        case rel => exact ⟨(j : Int) - 1, rfl, by omega, by omega, by rw [Hj1.out]; exact Hlast.out⟩
        case measure => first | (simp [intOf]; done) | (simp [intOf]; omega)
    · have hxm : (x + 1).toNat = 0 := by omega
      rw [hxm] at hlast
      have Hlast := Lib.hid hlast
      have hneg : x < 0 := by omega
      clear hlast hxm hx0
      go_wp2
      refine bodyPost_ret (v := .tuple #[.agg #[.int .i64 0, .int .u8 0, .int .u64 0, .string ⟨#[]⟩], .bool false]) (by simp [results, Try.results27, go_sem]) rfl ⟨?_, ?_⟩
      · rw [Hlast.out]; rfl
      · exact (Below.refl _ w).alloc (Nat.le_refl _) _

set_option maxHeartbeats 4000000 in
theorem rlast_any (w : World) (ad : Option Addr) (n cap : Nat) (num wb : Int) (fs : List M.Fd) (hn : n = fs.length) (hfl : Flds w w.heap.size ad fs) (hw0 : 0 ≤ wb) (hw1 : wb ≤ 255) :
    Calls Try.prog 28 #[.slice ad n cap, .int .i64 num, .int .u8 wb] w fun e w' => e = .returned (lastVal (lastOf num wb.toNat fs)) ∧ Below w.heap.size w w' := by
  have hn63 : n ≤ 9223372036854775807 := by rw [hn]; exact hfl.1
  obtain ⟨R, hR⟩ : ∃ R, R = lastOf num wb.toNat fs := ⟨_, rfl⟩
  rw [← hR]
  have HR := Lib.hid hR
  have Hn := Lib.hid hn
  have Hfl := Lib.hid ((hfl.keep ((Below.refl _ w).alloc (Nat.le_refl _) (.cells #[.int .i64 0, .int .u8 0, .int .u64 0, .string ⟨#[]⟩] 39))))
  clear hn hfl hR
  go_enter Try.func28, Try.ntmps28
  go_wp2
  go_loop [8] (fun i => ∃ (x : Int), i = .int .i64 x ∧ -1 ≤ x ∧ x < n ∧ R = lastOf num wb.toNat (fs.take (x + 1).toNat)) (fun i => (intOf i + 1).toNat)
  case atStart => exact ⟨(n : Int) - 1, rfl, by omega, by omega, by rw [HR.out, show ((n : Int) - 1 + 1).toNat = n by omega, List.take_of_length_le (by have := Hn.out; omega)]⟩
  case round =>
    obtain ⟨x, rfl, hx1, hx2, hlast⟩ := hrel
    by_cases hx0 : 0 ≤ x
    · obtain ⟨j, rfl⟩ := Int.eq_ofNat_of_zero_le hx0
      have hjn : j < n := by omega
      have hne : fs ≠ [] := by rintro rfl; have := Hn.out; simp at this; omega
      obtain ⟨g, off, rfl, hg, hi⟩ := Hfl.out.2 hne
      obtain ⟨f, hf⟩ : ∃ f, fs[j]? = some f := ⟨fs[j]'(by have := Hn.out; omega), by simp⟩
      obtain ⟨a, b, c, l, hfit, q⟩ := hi j f hf
      obtain ⟨q0, q1, q2, q3⟩ := q
      have hp := pick_fit hfit num wb hw0
      rw [show ((j : Int) + 1).toNat = j + 1 by omega, take_snoc_get hf, lastOf_snoc, hp] at hlast
      have Hfc := Lib.hid (fc_fit hfit)
      have hj1 : ((j : Int) - 1 + 1).toNat = j := by omega
      have Hj1 := Lib.hid hj1
      by_cases ha : a = num
      · by_cases hb : b = wb
        · rw [if_pos (by simp [ha, hb])] at hlast
          have hab : (a == num) = true := by simp [ha]
          have hbb : (b == wb) = true := by simp [hb]
          have Hlast := Lib.hid hlast
          clear hlast hp hfit hf hi hne hg ha hb hj1
          go_wp2
          refine bodyPost_ret (v := .tuple #[.agg (fcells a b c l), .bool true]) (by simp [results, Try.results28, go_sem]) rfl ⟨?_, ?_⟩
          · rw [Hlast.out, lastVal, ← Hfc.out]
          · exact (Below.refl _ w).alloc (Nat.le_refl _) _
        · rw [if_neg (by simp [hb])] at hlast
          have hab : (a == num) = true := by simp [ha]
          have hbb : (b == wb) = false := by simp [hb]
          have Hlast := Lib.hid hlast
          clear hlast hp hfit hf hi hne hg ha hb hj1
          go_wp2
          go_round
          case rel => exact ⟨(j : Int) - 1, rfl, by omega, by omega, by rw [Hj1.out]; exact Hlast.out⟩
          case measure => first | (simp [intOf]; done) | (simp [intOf]; omega)
      · rw [if_neg (by simp [ha])] at hlast
        have hab : (a == num) = false := by simp [ha]
        have Hlast := Lib.hid hlast
        clear hlast hp hfit hf hi hne hg ha hj1
        go_wp2
        go_round
        case rel => exact ⟨(j : Int) - 1, rfl, by omega, by omega, by rw [Hj1.out]; exact Hlast.out⟩
        case measure => first | (simp [intOf]; done) | (simp [intOf]; omega)
    · have hxm : (x + 1).toNat = 0 := by omega
      rw [hxm] at hlast
      have Hlast := Lib.hid hlast
      have hneg : x < 0 := by omega
      clear hlast hxm hx0
      go_wp2
      refine bodyPost_ret (v := .tuple #[.agg #[.int .i64 0, .int .u8 0, .int .u64 0, .string ⟨#[]⟩], .bool false]) (by simp [results, Try.results28, go_sem]) rfl ⟨?_, ?_⟩
      · rw [Hlast.out]; rfl
      · exact (Below.refl _ w).alloc (Nat.le_refl _) _
end Go.Proofs.Ytnnnnlcpmocnfaa
