/- QUEUE: THE WALKS OVER ack's bytes, CutPrefix, acked. -/
import Derived.Test.YtkhmdofeonlnpaaGreatDoorGaq
import Derived.Lib.SlBytesConst
import Derived.Deep.Cut
namespace Go.Proofs.YtkhmdofeonlnpaaGreatDoor
open Go.RowKit
set_option maxRecDepth 100000
set_option linter.unusedVariables false
set_option linter.unusedSimpArgs false

/-- bytes of the call's own -/
def YRow (w : World) (base : Nat) (v : Value) (xs : List UInt8) : Prop := w.ownsRow base 5 1 v xs.length (xs.map B)
theorem YRow.under {w w' : World} {base : Nat} {v : Value} {xs : List UInt8} (h : YRow w base v xs) (hb : Below w.heap.size w w') : YRow w' base v xs :=
  World.ownsRow.kept (row := none) h ⟨hb.os, hb.tape, hb.output, hb.size, fun k hk _ => hb.block k hk⟩ (by cases v.ownBlock <;> simp)
theorem app_byte (X : World) (base : Nat) (v : Value) (xs : List UInt8) (b : UInt8) (hb : base ≤ X.heap.size) (hrow : YRow X base v xs) (hn : xs.length ≤ 1000000) :
    ∃ v' w', (Builtin.append_ #[151, 151] 151 #[v, .slice (some ⟨X.heap.size, 0, none⟩) 1 1]).run Tryz.prog (X.alloc (.cells #[B b] 5)) = .ok v' w' ∧ YRow w' base v' (xs ++ [b]) ∧ (X.alloc (.cells #[B b] 5)).grownBy w' v.ownBlock := by
  obtain ⟨i0, hi, hz0, hz1, hz2⟩ := info_parts Tryz.info5
  have hblk := blk_new X (.cells #[B b] 5)
  have hcell : ∀ j u, ([B b] : List Value)[j]? = some u → (X.alloc (.cells #[B b] 5)).cell? ((⟨X.heap.size, 0, none⟩ : Addr).add j) = some u := fun j u hj => by
    have h0 := cell_of_row _ X.heap.size j _ 5 (0, 0) hblk
    rw [Addr.add_lit, Nat.zero_add, h0]
    simpa using hj
  obtain ⟨v', w', hr, ho, hg, _, hob⟩ := run_append_own_at (P := Tryz.prog) (X.alloc (.cells #[B b] 5)) base 151 151 5 i0 _ 1 1 Tryz.underlying151 hi hz0 hz1 hz2 rfl (by decide) v xs.length _ (World.ownsRow.alloc hrow _) ⟨X.heap.size, 0, none⟩ 1 1 [B b] (by simp) hcell (fun u hu => by
    simp only [List.mem_cons, List.not_mem_nil, or_false] at hu
    subst hu; rfl) (by simp [maxLen]; omega) (by omega) (by simp; omega)
  refine ⟨v', w', hr, ?_, hg⟩
  unfold YRow
  rw [List.map_append, List.length_append]
  exact ho
theorem YRow.conv {w : World} {base : Nat} {v : Value} {xs : List UInt8} (h : YRow w base v xs) (hne : xs ≠ []) : (convert 151 9 v).run Tryz.prog w = .ok (.string ⟨xs.toArray⟩) w := by
  rcases h.2 with ⟨_, hn⟩ | ⟨g, cap, cur, hv, _, hg, _, _, _, _⟩
  · exact absurd (List.eq_nil_of_length_eq_zero hn) hne
  · subst hv
    exact run_convert_bytes_back (P := Tryz.prog) w 151 9 5 ⟨g, 0, none⟩ cap xs Tryz.underlying151 Tryz.underlying5 Tryz.underlying9 fun j hj => World.ownsRow.cells h (g := g) rfl j _ (by simp [hj])

/-- append of a byte onto a byte that is not the call's own, there being no room -/
theorem app_byte0 (X : World) (b0 : Nat) (a b : UInt8) (hb0 : b0 < X.heap.size) (hc0 : X.cell? ⟨b0, 0, none⟩ = some (B a)) :
    ∃ v' w', (Builtin.append_ #[151, 151] 151 #[.slice (some ⟨b0, 0, none⟩) 1 1, .slice (some ⟨X.heap.size, 0, none⟩) 1 1]).run Tryz.prog (X.alloc (.cells #[B b] 5)) = .ok v' w' ∧ YRow w' X.heap.size v' [a, b] ∧ Below X.heap.size X w' := by
  obtain ⟨i0, hi, hz0, hz1, hz2⟩ := info_parts Tryz.info5
  obtain ⟨Y, hY⟩ : ∃ Y, Y = X.alloc (.cells #[B b] 5) := ⟨_, rfl⟩
  have hblk : Y.heap[X.heap.size]? = some (.cells #[B b] 5 (0, 0)) := by rw [hY]; exact blk_new X _
  have hbY : Below X.heap.size X Y := by rw [hY]; exact (Below.refl _ X).alloc (Nat.le_refl _) _
  rw [← hY]
  have hcY : Y.cell? ⟨b0, 0, none⟩ = some (B a) := (hbY.cell (p := ⟨b0, 0, none⟩) hb0).trans hc0
  have hs : Src Tryz.prog 1 151 (.slice (some ⟨X.heap.size, 0, none⟩) 1 1) 1 [B b] Y := by
    refine Src.ofSlice _ Tryz.underlying151 _ 1 1 _ rfl (fun j u hu => ?_) (fun u hu => ?_)
    · have h0 := cell_of_row _ X.heap.size j _ 5 (0, 0) hblk
      rw [Addr.add_lit, Nat.zero_add, h0]
      simpa using hu
    · simp only [List.mem_cons, List.not_mem_nil, or_false] at hu
      subst hu; rfl
  have hold : (Builtin.firstCells 1 1 (.slice (some ⟨b0, 0, none⟩) 1 1)).run Tryz.prog Y.drew = .ok #[B a] Y.drew := by
    refine run_firstCells_some Y.drew 1 1 _ 1 1 [B a] rfl (fun j u hu => ?_)
    match j, hu with
    | 0, hu => simp at hu; subst hu; exact hcY
    | j + 1, hu => simp at hu
  refine ⟨_, _, run_append_grow_src Y 151 151 151 5 i0 _ Tryz.underlying151 hi hz0 (some ⟨b0, 0, none⟩) 1 1 [B a] (by rw [hz1]; exact hold) _ 1 [B b] (by rw [hz1]; exact hs) (by omega) (by omega) (by rw [hz2]; exact growslice_fits (by omega) (by omega)), ?_, ?_⟩
  · have hge := grownCap_ge Y (1 + 1) 1 5
    have hcm : grownCap Y (1 + 1) 1 5 ≤ maxLen := grownCap_le_maxLen Y (1 + 1) 1 5 (by simp [maxLen])
    refine ⟨rfl, .inr ⟨Y.heap.size, _, _, rfl, hbY.size, heap_alloc_new Y.drew _, hge, hcm, ?_, ?_⟩⟩
    · simp only [Array.size_append, List.size_toArray, size_zeroCells]
      simp only [Value.cells, List.size_toArray, List.length_cons, List.length_nil, List.length_append]
      omega
    · simp only [Array.toList_append]
      exact List.take_left' rfl
  · exact hbY.trans ⟨rfl, rfl, rfl, by first | (simp; done) | (simp; have := hbY.size; omega), fun j hj => heap_alloc_old Y.drew _ (Nat.lt_of_lt_of_le hj hbY.size)⟩
set_option maxHeartbeats 2000000 in
theorem ackstr_any (w : World) (s : Nat) (hs : s < 18446744073709551616) :
    Calls Tryz.prog 83 #[.int .u64 (s : Int)] w fun e w' => e = .returned (.string (ackB s)) ∧ Below w.heap.size w w' := by
  have kc := fun (w : World) (C : Array Value) (n c : Nat) => Lib.run_convert_bytes_const (P := Tryz.prog) w 151 5 C n c Tryz.underlying151 Tryz.underlying5
  have hx0 : (w.alloc (.cells #[.int .u8 65] 5 (1, 2))).heap[w.heap.size]? = some (.cells #[.int .u8 65] 5 (1, 2)) := blk_new w _
  have hc0 : (w.alloc (.cells #[.int .u8 65] 5 (1, 2))).cell? ⟨w.heap.size, 0, none⟩ = some (B 65) := cell_of_row _ w.heap.size 0 _ 5 (1, 2) hx0
  have Hc0 := Lib.hid hc0
  clear hx0 hc0
  go_enter Tryz.func83, Tryz.ntmps83
  go_wp2
  clear kc
  go_loopw [3, 7] (fun v i wr => ∃ (k : Nat), i = .int .i64 (k : Int) ∧ k ≤ 8 ∧ ((k = 0 ∧ v = .slice (some ⟨w.heap.size, 0, none⟩) 1 1 ∧ wr.cell? ⟨w.heap.size, 0, none⟩ = some (B 65) ∧ w.heap.size < wr.heap.size) ∨ (0 < k ∧ YRow wr w.heap.size v (65 :: M.le k s))) ∧ Below w.heap.size w wr) (fun _ i _ => 8 - (intOf i).toNat)
  case atStart => exact ⟨0, rfl, by omega, .inl ⟨rfl, rfl, Hc0.out, by simp⟩, (Below.refl _ w).alloc (Nat.le_refl _) _⟩
  case round =>
    obtain ⟨k, rfl, hk, hrow, hbel⟩ := hrel
    have Hrow := Lib.hid hrow
    have Hbel := Lib.hid hbel
    by_cases hlt : k < 8
    · have hs0 : (0 : Int) ≤ (s : Int) := by omega
      have hfix := fix_byte (s : Int) hs0 k
      rw [Int.toNat_natCast] at hfix
      obtain ⟨v3, w3, hr3, hrow3, hb3⟩ : ∃ v3 w3, (Builtin.append_ #[151, 151] 151 #[u3, .slice (some ⟨wr.heap.size, 0, none⟩) 1 1]).run Tryz.prog (wr.alloc (.cells #[B (M.by8 (s / 256 ^ k % 256))] 5)) = .ok v3 w3 ∧ YRow w3 w.heap.size v3 (65 :: M.le (k + 1) s) ∧ Below w.heap.size w w3 := by
        rcases hrow with ⟨rfl, rfl, hc, hl⟩ | ⟨h0, hrow⟩
        · obtain ⟨v3, w3, h1, h2, h3⟩ := app_byte0 wr w.heap.size 65 (M.by8 (s / 256 ^ 0 % 256)) hl hc
          refine ⟨v3, w3, h1, ?_, hbel.trans (h3.mono hbel.size)⟩
          have : M.le (0 + 1) s = [M.by8 (s / 256 ^ 0 % 256)] := by simp [M.le]
          rw [this]
          exact World.ownsRow.mono h2 hbel.size
        · obtain ⟨v3, w3, h1, h2, h3⟩ := app_byte wr w.heap.size u3 (65 :: M.le k s) (M.by8 (s / 256 ^ k % 256)) hbel.size hrow (by rw [List.length_cons, M.le_len]; omega)
          rw [List.cons_append, ← M.le_snoc] at h2
          exact ⟨v3, w3, h1, h2, (hbel.alloc hbel.size _).grown h3 (by simp; have := hbel.size; omega) (fun j hj => (World.ownsRow.lt hrow j hj).1)⟩
      rw [← hfix] at hr3
      have Hrow3 := Lib.hid hrow3
      have Hb3 := Lib.hid hb3
      have Hr3 := Lib.hid hr3
      have hk8 : (8 : Int) * (k : Int) < 64 := by omega
      clear hrow3 hb3 hrow hbel hfix hr3
      go_wp2_with (at_builtin; refine wp_app rfl (.tmp 10) (.tmp 16) u3 (.slice (some ⟨wr.heap.size, 0, none⟩) 1 1) (by rfl) (by rfl) rfl Hr3.out ?_)
      go_wp2
      go_roundw
      case rel => exact ⟨k + 1, by go_num, by omega, .inr ⟨by omega, Hrow3.out⟩, Hb3.out⟩
      case measure => simp [intOf]; omega
    · have hkn : k = 8 := by omega
      have hrow2 : YRow wr w.heap.size u3 (65 :: M.le k s) := by
        rcases hrow with ⟨h0, _⟩ | ⟨_, h⟩
        · omega
        · exact h
      have hcv := hrow2.conv (by simp)
      rw [hkn] at hcv
      clear hkn hrow hrow2 hbel
      go_wp2
      go_ret
      exact ⟨rfl, Hbel.out⟩

/-- what acked answers -/
def ackV (o : Option Nat) : Value := match o with
  | some n => .tuple #[.int .u64 (n : Int), .bool true]
  | none => .tuple #[.int .u64 0, .bool false]
theorem acked_8 (w : World) (l : List UInt8) (hl : l.length = 8) :
    Calls Tryz.prog 69 #[.string ⟨(65 :: l).toArray⟩] w fun e w' => e = .returned (.tuple #[.int .u64 (M.unle l : Int), .bool true]) ∧ w = w' := by
  have Hl := Lib.hid hl
  have hcut := cut_yes 65 l (by omega) w
  have Hcut := Lib.hid hcut
  have hn8 : ((l.length : Int) != 8) = false := by rw [hl]; rfl
  clear hcut hl
  go_enter Tryz.func69, Tryz.ntmps69
  go_wp2_with fail
  refine Hcut.out.mono ?_
  rintro e w' ⟨rfl, rfl⟩
  go_wp2
  clear hn8
  go_loop [6, 20] (fun s i => ∃ (k acc : Nat), i = .int .i64 (k : Int) ∧ k ≤ l.length ∧ s = .int .u64 (acc : Int) ∧ acc = M.unle (l.take k)) (fun _ i => 8 - (intOf i).toNat)
  case atStart => exact ⟨0, 0, rfl, by omega, rfl, rfl⟩
  case round =>
    obtain ⟨k, acc, rfl, hk, rfl, hacc⟩ := hrel
    by_cases hlt : k < 8
    · have hll := Hl.out
      have hlt2 : k < l.length := by omega
      obtain ⟨c, hc⟩ : ∃ c : Int, c = (l[k].toNat : Int) := ⟨_, rfl⟩
      have hc0 : 0 ≤ c := by omega
      have hc1 : c ≤ 255 := by have := l[k].toNat_lt; omega
      have hlen : (l.take k).length = k := by rw [List.length_take]; omega
      have hb := M.unle_lt (l.take k)
      rw [hlen, show (256 : Nat) ^ k = 2 ^ (8 * k) by rw [Nat.pow_mul], ← hacc] at hb
      have hsn : acc + c.toNat * 2 ^ (8 * k) = M.unle (l.take (k + 1)) := by
        rw [List.take_succ_eq_append_getElem hlt2, unle_snoc, hlen, ← hacc, hc, Int.toNat_natCast]
      have hp : 2 ^ (8 * k) ≤ 2 ^ 56 := Nat.pow_le_pow_right (by decide) (by omega)
      have hb2 : c.toNat * 2 ^ (8 * k) < 18446744073709551616 := by
        calc c.toNat * 2 ^ (8 * k) ≤ 255 * 2 ^ 56 := Nat.mul_le_mul (by omega) hp
          _ < _ := by decide
      have hor := shor (acc : Int) c (8 * k) (by omega) (by exact Int.ofNat_lt.2 hb) hc0 hb2 (by
        have e : (2 : Nat) ^ 56 = 72057594037927936 := by decide
        omega)
      rw [Int.toNat_natCast, hc] at hor
      have Hor := Lib.hid hor
      have Hc := Lib.hid hc
      have Hsn := Lib.hid hsn
      have hq : IntKind.u64.wrap (((⟨l.toArray⟩ : ByteArray)[k]'(by simpa [ByteArray.size] using hlt2)).toNat : Int) = (l[k].toNat : Int) := by
        rw [IntKind.wrap_u64]
        show ((l[k].toNat : Nat) : Int) % _ = _
        have := l[k].toNat_lt
        omega
      have Hq := Lib.hid hq
      clear hlen hb hsn hp hb2 hor hacc hc1 hc0 hc hq hll
      go_wp2
      go_round
      case rel => exact ⟨k + 1, acc + c.toNat * 2 ^ (8 * k), by go_num, by omega, by rw [Hq.out, Hor.out, ← Hc.out], Hsn.out⟩
      case measure => simp [intOf]; omega
    · have hll := Hl.out
      have hkz : k = l.length := by omega
      have hfin : acc = M.unle l := by rw [hacc, hkz, List.take_length]
      have Hfin := Lib.hid hfin
      clear hacc hkz hfin hll
      go_wp2
      go_ret2
      exact ⟨by rw [← Hfin.out]; rfl, rfl⟩
theorem acked_no8 (w : World) (l : List UInt8) (hl : l.length ≠ 8) (hb : l.length ≤ 9223372036854775806) :
    Calls Tryz.prog 69 #[.string ⟨(65 :: l).toArray⟩] w fun e w' => e = .returned (.tuple #[.int .u64 0, .bool false]) ∧ w = w' := by
  have hcut := cut_yes 65 l hb w
  have Hcut := Lib.hid hcut
  have hn8 : ((l.length : Int) != 8) = true := by simp; omega
  clear hcut hl
  go_enter Tryz.func69, Tryz.ntmps69
  go_wp2_with fail
  refine Hcut.out.mono ?_
  rintro e w' ⟨rfl, rfl⟩
  go_wp2
  go_ret2
  exact ⟨rfl, rfl⟩
theorem acked_other (w : World) (x : UInt8) (l : List UInt8) (hx : ¬ x = 65) (hb : l.length ≤ 9223372036854775806) :
    Calls Tryz.prog 69 #[.string ⟨(x :: l).toArray⟩] w fun e w' => e = .returned (.tuple #[.int .u64 0, .bool false]) ∧ w = w' := by
  have hcut := cut_no x l 65 hx hb w
  have Hcut := Lib.hid hcut
  clear hcut hx
  go_enter Tryz.func69, Tryz.ntmps69
  go_wp2_with fail
  refine Hcut.out.mono ?_
  rintro e w' ⟨rfl, rfl⟩
  go_wp2
  go_ret2
  exact ⟨rfl, rfl⟩
theorem acked_nil (w : World) :
    Calls Tryz.prog 69 #[.string ⟨#[]⟩] w fun e w' => e = .returned (.tuple #[.int .u64 0, .bool false]) ∧ w = w' := by
  have hcut := cut_nil 65 w
  have Hcut := Lib.hid hcut
  clear hcut
  go_enter Tryz.func69, Tryz.ntmps69
  go_wp2_with fail
  refine Hcut.out.mono ?_
  rintro e w' ⟨rfl, rfl⟩
  go_wp2
  go_ret2
  exact ⟨rfl, rfl⟩
theorem list_of (d : ByteArray) : d = ⟨(bs d).toArray⟩ := by apply bs_inj; rw [bs_mk]
theorem acked_any (w : World) (d : ByteArray) (hd : d.size ≤ 65536) : Calls Tryz.prog 69 #[.string d] w fun e w' => e = .returned (ackV (ackOf d)) ∧ w = w' := by
  have hs := bs_len d
  unfold ackOf
  rw [bs_tl, ← hs]
  have hd' : (bs d).length ≤ 65536 := by omega
  rw [list_of d]
  generalize bs d = l at hd' ⊢
  cases l with
  | nil => exact acked_nil w
  | cons x t =>
    simp only [List.length_cons] at hd'
    by_cases hx : x = 65
    · subst hx
      by_cases ht : t.length = 8
      · rw [if_pos ⟨rfl, by simp [ht]⟩]
        exact acked_8 w t ht
      · rw [if_neg (fun h => ht (by have := h.2; simp at this; exact this))]
        exact acked_no8 w t ht (by omega)
    · rw [if_neg (fun h => hx (by have := h.1; simp at this; exact this))]
      exact acked_other w x t hx (by omega)
/-- what CutPrefix at P answers -/
def putV (d : ByteArray) (o : Option ByteArray) : Value := match o with
  | some t => .tuple #[.string t, .bool true]
  | none => .tuple #[.string d, .bool false]
theorem cutP_any (w : World) (d : ByteArray) (hd : d.size ≤ 65536) : Calls Tryz.prog 70 #[.string d, .string ⟨#[80]⟩] w fun e w' => e = .returned (putV d (putOf d)) ∧ w = w' := by
  have hs := bs_len d
  unfold putOf
  have ht : tlB d = ⟨((bs d).drop 1).toArray⟩ := by apply bs_inj; rw [bs_tl, bs_mk]
  rw [ht]
  have hd' : (bs d).length ≤ 65536 := by omega
  rw [list_of d]
  generalize bs d = l at hd' ⊢
  cases l with
  | nil => exact cut_nil 80 w
  | cons x t =>
    simp only [List.length_cons] at hd'
    by_cases hx : x = 80
    · subst hx
      rw [if_pos (show (80 :: t).head? = some (80 : UInt8) from rfl)]
      exact cut_yes 80 t (by omega) w
    · rw [if_neg (fun h => hx (by simp at h; exact h))]
      exact cut_no x t 80 hx (by omega) w
end Go.Proofs.YtkhmdofeonlnpaaGreatDoor

/- QUEUE: THE WALK OVER ack. -/
namespace Go.Proofs.YtkhmdofeonlnpaaGreatDoor
open Go.RowKit
set_option maxRecDepth 100000
set_option linter.unusedVariables false
set_option linter.unusedSimpArgs false

theorem ownOr_trans {w w1 : World} {u u1 u2 : Value} (h : OwnOr w u u1) (h2 : OwnOr w1 u1 u2) (hs : w.heap.size ≤ w1.heap.size) : OwnOr w u u2 := fun b e => by
  rcases h2 b e with q | q
  · exact h b q
  · exact .inr (by omega)
set_option maxHeartbeats 8000000 in
theorem qack_any (w : World) (base g : Nat) (ad : Option Addr) (n cap : Nat) (u : Value) (q : Q) (s : Nat) (hs : s < 18446744073709551616) (h : QAt w base g ad n cap u q) (h64 : q.es.length ≤ 1999) (hR : LRight q.l) (hbr : q.l.broken = false) (hT : Tabs w) (hw : 5 < w.heap.size) (hbase : 5 < base) :
    Calls Tryz.prog 37 #[.pointer (some ⟨g, 0, none⟩), .int .u64 (s : Int)] w fun e w' => Ends (ackM q s).2.2 (.tuple #[]) e ∧ Left w base g u (ackM q s).1 w' := by
  have HF := Lib.hid (leased_any w base g ad n cap u q h (by omega) s hs)
  have H := Lib.hid h
  have HR := Lib.hid hR
  have Hbr := Lib.hid hbr
  have HT := Lib.hid hT
  have hnum : Num q.l.d.fuse ∧ Num q.l.d.fault := ⟨⟨h.l.d.u0, h.l.d.u1⟩, ⟨h.l.d.f0, h.l.d.f1⟩⟩
  have Hnum := Lib.hid hnum
  obtain ⟨adu, capu, hu, hE⟩ := EIn.of_row h.row
  subst hu
  clear hE
  obtain ⟨N, hN⟩ : ∃ N, q.es.length = N := ⟨_, rfl⟩
  rw [hN] at h H h64 ⊢
  have HN := Lib.hid hN
  clear h hR hbr hT hN hnum
  go_enter Tryz.func37, Tryz.ntmps37
  go_wp2_with fail
  refine (HF.out).mono ?_
  rintro e w1 ⟨⟨i, hi, rfl⟩ | ⟨hi, rfl⟩, hb1⟩
  rotate_left
  · have hm : ackM q s = (q, zE, 19) := by unfold ackM; rw [hi]
    have Hm := Lib.hid hm
    have H1 := Lib.hid (H.out.under hb1)
    have HK1 := Lib.hid (Kq.of_below (g := g) (u := .slice adu N capu) hb1)
    clear hm hi hb1
    go_wp2
    rw [Hm.out]
    exact ⟨rfl, .inr ⟨by simp, rfl⟩, ad, n, cap, _, H1.out, HK1.out, fun b e => .inl e⟩
  obtain ⟨e, he, _, _⟩ := findIdx?_lt hi
  have hiN : i < N := by have := HN.out; have := (List.getElem?_eq_some_iff.1 he).1; omega
  have hne : q.es ≠ [] := by rintro e1; rw [e1] at he; simp at he
  have Hi := Lib.hid hi
  have H1 := Lib.hid (H.out.under hb1)
  have HK1 := Lib.hid (Kq.of_below (g := g) (u := .slice adu N capu) hb1)
  have HT1 := Lib.hid (HT.out.under hb1)
  have hw1 : 5 < w1.heap.size := by have := hb1.size; omega
  obtain ⟨gu, capu', hv, hbg, hgl, hcc, _, _, _⟩ := H.out.row.blk hne
  injection hv with e1 e2 e3
  subst e1
  clear hi hb1 hcc e2 e3 he hne
  go_wp2_with fail
  refine (ackstr_any w1 s hs).mono ?_
  rintro en w2 ⟨rfl, hb2⟩
  have H2 := Lib.hid (H1.out.under hb2)
  have HK2 := Lib.hid (HK1.out.trans (Kq.of_below (g := g) (u := .slice (some ⟨gu, 0, none⟩) N capu) hb2) (fun b e => .inl e))
  have HT2 := Lib.hid (HT1.out.under hb2)
  have hw2 : 5 < w2.heap.size := by have := hb2.size; omega
  have hps := ack_size s
  have hps2 : (ackB s).size ≤ 9223372036854775807 := by omega
  clear hps hb2
  go_wp2_with fail
  refine (write_any w2 base g ad n cap _ q (ackB s) hps2 H2.out HR.out Hbr.out HT2.out hw2).mono ?_
  rintro en w3 ⟨hen, ad2, n2, cap2, hq3, hk3⟩
  have hA := app_facts (l := q.l) (d := ackB s) HR.out Hnum.out.1 Hnum.out.2
  obtain ⟨⟨l2, c⟩, hr⟩ : ∃ r, appM q.l (ackB s) = r := ⟨_, rfl⟩
  rw [hr] at hen hq3 hA
  have Hr := Lib.hid hr
  have HA := Lib.hid hA
  have H3 := Lib.hid hq3
  have HK3 := Lib.hid (HK2.out.trans hk3 (fun b e => .inl e))
  have HT3 := Lib.hid (HT2.out.kq hk3 (by have := H2.out.bg; omega) (fun b e => by have := (H2.out.ul b e).1; omega))
  clear hr hq3 hk3 hA
  rcases hen with ⟨hc, rfl⟩ | ⟨hc, rfl⟩
  rotate_left
  · have hm : ackM q s = (⟨l2, q.es, q.most⟩, zE, c) := by
      unfold ackM
      rw [Hi.out]
      simp only
      rw [Hr.out, if_neg hc]
    have Hm := Lib.hid hm
    have Hc := Lib.hid hc
    clear hm hc
    go_wp2
    rw [Hm.out]
    exact ⟨rfl, .inr ⟨Hc.out, rfl⟩, ad2, n2, cap2, _, H3.out, HK3.out, fun b e => .inl e⟩
  have hc : c = 0 := hc
  subst hc
  have hbr2 := (HA.out.ok rfl).1
  rw [Hbr.out] at hbr2
  have hm : ackM q s = (⟨(cutM l2 (firstM2 l2 (q.es.eraseIdx i))).1, q.es.eraseIdx i, q.most⟩, zE, (cutM l2 (firstM2 l2 (q.es.eraseIdx i))).2) := by
    unfold ackM
    rw [Hi.out]
    simp only
    rw [Hr.out, if_pos rfl]
    have hdr : drM l2 (firstM2 l2 (q.es.eraseIdx i)) = cutM l2 (firstM2 l2 (q.es.eraseIdx i)) := by
      unfold drM
      rw [if_pos HA.out.R]
      unfold chM
      rw [if_neg (by rw [hbr2]; simp)]
    simp only [hdr]
  have Hm := Lib.hid hm
  have Hbr2 := Lib.hid hbr2
  clear hm hbr2
  obtain ⟨d0, d1, d2, d3, d4, d5, d6, d7, d8, d9⟩ := box10 H3.out.h
  have hlg := H3.out.lt
  have hiI : (i : Int) + 1 ≤ 9223372036854775807 := by omega
  go_wp2_with fail
  refine (delete_any w3 base gu N capu i q.es H3.out.row HN.out.symm hiN (by omega)).mono ?_
  rintro en w4 ⟨rfl, hrow4, hg4⟩
  have hX4 := QAt.ents H3.out (u := .slice (some ⟨gu, 0, none⟩) N capu) hg4 hrow4 (fun b e => .inl e) (fun x hx => H3.out.fit x (List.mem_of_mem_eraseIdx hx))
  have hbx4 : w4.heap[g]? = some (.cells (Q.cells ⟨l2, q.es, q.most⟩ (.slice ad2 n2 cap2) (.slice (some ⟨gu, 0, none⟩) N capu)) 139 (0, 0)) := (hg4.block g hlg (fun e => H3.out.uo e.symm)).trans H3.out.h
  have HX4 := Lib.hid hX4.1
  have HK4 := Lib.hid (HK3.out.trans hX4.2 (fun b e => .inl e))
  have HT4 := Lib.hid (HT3.out.kq hX4.2 (by have := H3.out.bg; omega) (fun b e => by have := (H3.out.ul b e).1; omega))
  clear hX4 hrow4 hg4 d0 d1 d2 d3 d4 d5 d6 d7 d8 d9 hlg
  obtain ⟨_, _, _, _, _, _, _, _, e8, _⟩ := box10 hbx4
  obtain ⟨_, _, _, _, _, _, _, _, y8, _⟩ := frz10 hbx4
  have hlg4 := (Array.getElem?_eq_some_iff.1 hbx4).1
  clear hbx4
  go_upto_region 3 with (fail)
  obtain ⟨X, hX⟩ : ∃ X, X = w4.setCell ⟨g, 8, none⟩ (.slice (some ⟨gu, 0, none⟩) (N - 1) capu) := ⟨_, rfl⟩
  rw [← hX]
  have HXX := Lib.hid (show QAt X base g ad2 n2 cap2 (.slice (some ⟨gu, 0, none⟩) (N - 1) capu) ⟨l2, q.es.eraseIdx i, q.most⟩ from by rw [hX]; exact HX4.out)
  have HKX := Lib.hid (show Kq g (.slice (some ⟨gu, 0, none⟩) N capu) w X from by rw [hX]; exact HK4.out)
  have HTX := Lib.hid (show Tabs X from by rw [hX]; exact HT4.out)
  have hwX : 5 < X.heap.size := by have := HXX.out.lt; have := HXX.out.bg; omega
  clear hX e8 y8 hlg4
  have hel : (q.es.eraseIdx i).length ≤ 2000 := by have h1 := (List.eraseIdx_sublist q.es i).length_le; have h2 := HN.out; omega
  go_wp2_with fail
  refine (qfirst_any X base g ad2 n2 cap2 _ ⟨l2, q.es.eraseIdx i, q.most⟩ HXX.out hel).mono ?_
  rintro en w5 ⟨rfl, rfl⟩
  have hf0 : 0 ≤ firstM2 l2 (q.es.eraseIdx i) ∧ firstM2 l2 (q.es.eraseIdx i) ≤ 18446744073709551615 := by
    have h1 := HXX.out.l.n0
    have h2 := HXX.out.l.n1
    simp only at h1 h2
    unfold firstM2
    cases hx : q.es.eraseIdx i with
    | nil => exact ⟨h1, h2⟩
    | cons x t =>
      have h3 := (HXX.out.fit x (by simp only; rw [hx]; exact List.mem_cons_self)).1
      simp only
      omega
  obtain ⟨fq, hfq⟩ : ∃ fq, firstM2 l2 (q.es.eraseIdx i) = fq := ⟨_, rfl⟩
  simp only [hfq] at hf0 ⊢
  have Hfq := Lib.hid hfq
  obtain ⟨f0, f1⟩ := hf0
  clear hfq
  go_wp2_with fail
  refine (drop_any2 X base g ad2 n2 cap2 _ ⟨l2, q.es.eraseIdx i, q.most⟩ fq f0 f1 HXX.out HA.out.R Hbr2.out HTX.out hwX).mono ?_
  rintro en w6 ⟨hen, ad3, n3, cap3, hq6, hk6⟩
  rw [Hfq.out] at Hm
  have H6 := Lib.hid hq6
  have HK6 := Lib.hid (HKX.out.trans hk6 (fun b e => .inl e))
  clear hq6 hk6 f0 f1
  rcases hen with ⟨hc, rfl⟩ | ⟨hc, rfl⟩
  · have Hc := Lib.hid hc
    clear hc
    go_wp2
    go_end0
    rw [Hm.out]
    exact ⟨.inl ⟨Hc.out, rfl⟩, ad3, n3, cap3, _, H6.out, HK6.out, fun b e => .inl e⟩
  · have Hc := Lib.hid hc
    clear hc
    go_wp2
    rw [Hm.out]
    exact ⟨rfl, .inr ⟨Hc.out, rfl⟩, ad3, n3, cap3, _, H6.out, HK6.out, fun b e => .inl e⟩
end Go.Proofs.YtkhmdofeonlnpaaGreatDoor

/- QUEUE: THE WALKS OVER lease, release. -/
namespace Go.Proofs.YtkhmdofeonlnpaaGreatDoor
open Go.RowKit
set_option maxRecDepth 100000
set_option linter.unusedVariables false
set_option linter.unusedSimpArgs false

set_option maxHeartbeats 4000000 in
theorem lease_any (w : World) (base g : Nat) (ad : Option Addr) (n cap : Nat) (u : Value) (q : Q) (h : QAt w base g ad n cap u q) (h64 : q.es.length ≤ 2000) :
    Calls Tryz.prog 35 #[.pointer (some ⟨g, 0, none⟩)] w fun e w' => Ends (leaseM q).2.2 (.agg #[.int .u64 ((leaseM q).2.1.seq : Int), .string (leaseM q).2.1.data, .bool (leaseM q).2.1.leased]) e ∧ Left w base g u (leaseM q).1 w' := by
  have hb0 : Below w.heap.size w (w.alloc (.cells #[.int .u64 0, .string ⟨#[]⟩, .bool false] 39)) := (Below.refl _ w).alloc (Nat.le_refl _) _
  have hx := blk_new w (.cells #[.int .u64 0, .string ⟨#[]⟩, .bool false] 39)
  have H0 := h.under hb0
  have HF := Lib.hid (qfind_any (w.alloc (.cells #[.int .u64 0, .string ⟨#[]⟩, .bool false] 39)) base g ad n cap u q H0 h64 7 81 #[] (fun e => !e.leased) (test79 _))
  have H := Lib.hid H0
  have Hx := Lib.hid hx
  have Hb0 := Lib.hid hb0
  have Hul := Lib.hid (fun b e => (h.ul b e).2)
  have Hvl := Lib.hid h.vl
  have Hlg := Lib.hid h.lt
  clear h hb0 hx H0
  go_enter Tryz.func35, Tryz.ntmps35
  go_wp2_with fail
  refine HF.out.mono ?_
  rintro e w1 ⟨⟨i, hi, rfl⟩ | ⟨hi, rfl⟩, hb1⟩
  rotate_left
  · have hm : leaseM q = (q, zE, 7) := by unfold leaseM freeAt; rw [hi]
    have Hm := Lib.hid hm
    have H1 := Lib.hid (H.out.under hb1)
    have Hb1 := Lib.hid (Hb0.out.trans (hb1.mono Hb0.out.size))
    clear hi hb1 hm
    go_wp2
    rw [Hm.out]
    exact ⟨rfl, .inr ⟨by simp, rfl⟩, ad, n, cap, u, H1.out, Kq.of_below Hb1.out, fun b e => .inl e⟩
  obtain ⟨e, he, hpe, _⟩ := findIdx?_lt hi
  have hel : e.leased = false := by simpa using hpe
  have hm : leaseM q = (⟨q.l, q.es.set i (leaseE e), q.most⟩, leaseE e, 0) := by
    unfold leaseM freeAt
    rw [hi]
    simp only [he]
  have hne : q.es ≠ [] := by rintro e1; rw [e1] at he; simp at he
  have H1 := H.out.under hb1
  have hx1 := (hb1.block _ (Array.getElem?_eq_some_iff.1 Hx.out).1).trans Hx.out
  obtain ⟨gu, capu, hv, hbg, hgl, hcc, hat, hfz, hset⟩ := H1.row.blk hne
  subst hv
  obtain ⟨N, hN⟩ : ∃ N, q.es.length = N := ⟨_, rfl⟩
  have hiN : i < N := by rw [← hN]; exact (List.getElem?_eq_some_iff.1 he).1
  rw [hN] at H1 hcc h64
  obtain ⟨q0, q1, q2⟩ := hat i e he
  simp only [Nat.zero_add] at q0 q1 q2
  have fz := hfz (i * 3 + 2)
  have hguw : gu < w.heap.size := Hul.out gu rfl
  have HguW := Lib.hid hguw
  have Hw1 := Lib.hid (show w.heap.size < w1.heap.size from (Array.getElem?_eq_some_iff.1 hx1).1)
  have Hmk := Lib.hid (H1.mark he true)
  have Hb1 := Lib.hid (Hb0.out.trans (hb1.mono Hb0.out.size))
  have Hx1 := Lib.hid hx1
  have HN := Lib.hid hN
  have Hm := Lib.hid hm
  have He := Lib.hid he
  obtain ⟨d0, d1, d2, d3, d4, d5, d6, d7, d8, d9⟩ := box10 H1.h
  have hlg := H1.lt
  obtain ⟨es1, ed1, el1⟩ := e
  simp only at hel
  subst hel
  clear hi hm hne H1 hx1 hat hfz hset hb1 he hN hpe hguw hbg
  go_upto_region 3 with (fail)
  obtain ⟨X, hX⟩ : ∃ X, X = w1.setCell ⟨gu, i * 3 + 2, none⟩ (.bool true) := ⟨_, rfl⟩
  rw [← hX]
  have HX := Lib.hid (show QAt X base g ad n cap (.slice (some ⟨gu, 0, none⟩) N capu) ⟨q.l, q.es.set i { (⟨es1, ed1, false⟩ : E) with leased := true }, q.most⟩ from by rw [hX]; exact Hmk.out)
  have HK1 := Lib.hid (show Kq g (.slice (some ⟨gu, 0, none⟩) N capu) w X from by
    rw [hX]
    exact (Kq.of_below Hb1.out).trans (Kq.of_row (u := .slice (some ⟨gu, 0, none⟩) N capu) (w := w1) ⟨rfl, rfl, rfl, by simp [World.setCell], fun k hk hne => Below.heap_setCell w1 ⟨gu, _, none⟩ _ k (fun e => hne (by rw [e]; rfl))⟩) (fun b e => .inl e))
  have HxX := Lib.hid (show X.heap[w.heap.size]? = some (.cells #[.int .u64 0, .string ⟨#[]⟩, .bool false] 39 (0, 0)) from by rw [hX]; exact (Below.heap_setCell w1 ⟨gu, _, none⟩ _ w.heap.size (by have := HguW.out; simp only; omega)).trans Hx1.out)
  have hset2 : (q.es.set i { (⟨es1, ed1, false⟩ : E) with leased := true })[i]? = some ⟨es1, ed1, true⟩ := by
    rw [List.getElem?_set_self (by have := HN.out; omega)]
  obtain ⟨gu', capu', hv', _, _, _, hat', _, _⟩ := HX.out.row.blk (by intro e1; simp only at e1; rw [e1] at hset2; simp at hset2)
  injection hv' with e1 e2 e3
  injection e1 with e1
  injection e1 with e1 _ _
  subst e1
  clear e2 e3
  obtain ⟨hq0, hq1, hq2⟩ := hat' i _ hset2
  simp only [Nat.zero_add] at hq0 hq1 hq2
  clear hat' hset2
  have hguX : gu < X.heap.size := by rw [hX]; simp [World.setCell]; exact hgl
  clear hX d0 d1 d2 d3 d4 d5 d6 d7 d8 d9 hlg q0 q1 q2 fz Hmk Hx1 hgl
  obtain ⟨d0, d1, d2, d3, d4, d5, d6, d7, d8, d9⟩ := box10 HX.out.h
  have hlg := HX.out.lt
  obtain ⟨⟨y0, y1, y2⟩, f0, f1, f2⟩ := blk3 HxX.out
  have hly := (Array.getElem?_eq_some_iff.1 HxX.out).1
  go_wp2
  have hend := put3 HxX.out (.int .u64 (es1 : Int)) (.string ed1) (.bool true)
  obtain ⟨⟨z0, z1, z2⟩, _⟩ := blk3 hend
  refine bodyPost_ret (v := .agg #[.int .u64 (es1 : Int), .string ed1, .bool true]) (by simp [results, Tryz.results35, go_sem, z0, z1, z2]) rfl ?_
  rw [Hm.out, HN.out]
  refine ⟨.inl ⟨rfl, rfl⟩, ad, n, cap, .slice (some ⟨gu, 0, none⟩) N capu, ?_, ?_, fun b e => .inl e⟩
  · have hne1 : w.heap.size ≠ g := by have := Hlg.out; omega
    have hne2 : (Value.slice (some ⟨gu, 0, none⟩) N capu).ownBlock ≠ some w.heap.size := fun e => by have := Hul.out _ e; omega
    have hne3 : (Value.slice ad n cap).ownBlock ≠ some w.heap.size := fun e => by have := Hvl.out _ e; omega
    exact ((HX.out.far hne1 hne2 hne3).far hne1 hne2 hne3).far hne1 hne2 hne3
  · exact ((HK1.out.far (Nat.le_refl _)).far (Nat.le_refl _)).far (Nat.le_refl _)
end Go.Proofs.YtkhmdofeonlnpaaGreatDoor

/- QUEUE: THE WALK OVER release. -/
namespace Go.Proofs.YtkhmdofeonlnpaaGreatDoor
open Go.RowKit
set_option maxRecDepth 100000
set_option linter.unusedVariables false
set_option linter.unusedSimpArgs false

end Go.Proofs.YtkhmdofeonlnpaaGreatDoor
