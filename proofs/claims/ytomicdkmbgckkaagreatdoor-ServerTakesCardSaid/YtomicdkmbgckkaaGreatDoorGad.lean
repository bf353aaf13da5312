/- HTTP: THE WALK OVER strings.IndexRune OF THE SIGNS OF A YtjkinjfbjbehjaaGreatDoor, AT A RUNE BEYOND ASCII. -/
import Derived.Test.YtomicdkmbgckkaaGreatDoorGac
import Derived.Deep.LoopGhost
import Derived.Lib.IndexMore
import Derived.WalkMore
import Derived.Deep.RegionHeld3
namespace Go.Proofs.YtomicdkmbgckkaaGreatDoor
open Go.RowKit
set_option linter.unusedVariables false
set_option linter.unusedSimpArgs false
set_option maxRecDepth 100000

theorem enc_high (x : Nat) (h : 128 ≤ x) : (∃ a b, Utf8.encode (x : Int) = ⟨#[a, b]⟩ ∧ 128 ≤ b.toNat) ∨ (∃ a b c, Utf8.encode (x : Int) = ⟨#[a, b, c]⟩ ∧ 128 ≤ c.toNat) ∨ (∃ a b c d, Utf8.encode (x : Int) = ⟨#[a, b, c, d]⟩ ∧ 128 ≤ d.toNat) := by
  have hb : ∀ n, 128 ≤ (UInt8.ofNat (128 + n % 64)).toNat := fun n => by rw [UInt8.toNat_ofNat']; omega
  unfold Utf8.encode
  simp only
  obtain ⟨c, hc⟩ : ∃ c, (if Utf8.valid (x : Int) then (x : Int).toNat else Utf8.runeError) = c := ⟨_, rfl⟩
  have hlo : 128 ≤ c := by rw [← hc]; split <;> simp [Utf8.runeError] <;> omega
  rw [hc, if_neg (by omega)]
  split
  · exact .inl ⟨_, _, rfl, hb _⟩
  · split
    · exact .inr (.inl ⟨_, _, _, rfl, hb _⟩)
    · exact .inr (.inr ⟨_, _, _, _, rfl, hb _⟩)
theorem idx_none (c : UInt8) (hc : 128 ≤ c.toNat) : ∀ l : H.T, (∀ b ∈ l, b.toNat < 128) → Lib.indexByte l c = -1
  | [], _ => rfl
  | b :: t, h => by
    have h1 : ¬ b = c := fun e => by have := h b (by simp); rw [e] at this; omega
    have := idx_none c hc t (fun x hx => h x (by simp [hx]))
    simp [Lib.indexByte, h1, this]
theorem signs_dec (pos : Nat) (h : pos < 15) : (Utf8.decode ⟨H.signs.toArray⟩ pos).1 < 128 ∧ (Utf8.decode ⟨H.signs.toArray⟩ pos).2 = 1 := by
  have : ∀ p : Fin 15, (Utf8.decode ⟨H.signs.toArray⟩ p.val).1 < 128 ∧ (Utf8.decode ⟨H.signs.toArray⟩ p.val).2 = 1 := by decide
  exact this ⟨pos, h⟩
theorem sgn_err (W : World) : Calls Tryz.prog 78 #[S H.signs, .int .i32 65533] W fun e w' => e = .returned (.int .i64 (-1)) ∧ Below W.heap.size W w' := by
  go_enter Tryz.func78, Tryz.ntmps78
  go_wp2
  go_loopg [] 15 (fun gf wx => ∃ pos : Nat, wx.heap[W.heap.size]? = some (.stringIter ⟨H.signs.toArray⟩ pos) ∧ Below W.heap.size W wx ∧ 15 ≤ pos + gf)
  case atStart => exact ⟨0, World.iter_heap W _ 0, (Below.refl _ W).alloc (Nat.le_refl _) _, by omega⟩
  case round =>
    obtain ⟨pos, hit, hbw, hfu⟩ := hrel
    by_cases hps : pos < 15
    · obtain ⟨g', rfl⟩ : ∃ g', gk = g' + 1 := ⟨gk - 1, by omega⟩
      have hsz : pos < (⟨H.signs.toArray⟩ : ByteArray).size := hps
      have hnx : ∀ ty, (Instr.next (.pointer (some ⟨W.heap.size, 0, none⟩)) true ty).run Tryz.prog wr = _ := fun ty => Lib.run_next_any_at wr W.heap.size _ pos ty hit hsz
      obtain ⟨hd1, hd2⟩ := signs_dec pos hps
      obtain ⟨R, hR⟩ : ∃ R, (Utf8.decode ⟨H.signs.toArray⟩ pos).1 = R := ⟨_, rfl⟩
      rw [hR] at hnx hd1
      rw [hd2] at hnx
      have hit2 := Lib.iterAt_heap wr W.heap.size _ pos (pos + 1) hit
      have hbw2 := Lib.below_iterAt hbw (k := W.heap.size) (Nat.le_refl _) ⟨H.signs.toArray⟩ (pos + 1)
      obtain ⟨V, hV⟩ : ∃ V, wr.iterAt W.heap.size ⟨H.signs.toArray⟩ (pos + 1) = V := ⟨_, rfl⟩
      rw [hV] at hnx hit2 hbw2
      have hne : ¬ (R : Int) = 65533 := by omega
      clear hd2 hR hV hit
      go_wp2
      go_roundg g'
      case measure => omega
      case rel => exact ⟨pos + 1, hit2, hbw2, by omega⟩
    · have hnx : ∀ ty, (Instr.next (.pointer (some ⟨W.heap.size, 0, none⟩)) true ty).run Tryz.prog wr = _ := fun ty => Lib.run_next_end_at wr W.heap.size _ pos ty hit hps
      go_wp2
      go_ret
      exact ⟨rfl, hbw⟩
theorem sgn_bad (W : World) (z : Int) (h : 128 ≤ z) (h2 : ¬ z = 65533) (hv : Lib.validRune z = false) : Calls Tryz.prog 78 #[S H.signs, .int .i32 z] W fun e w' => e = .returned (.int .i64 (-1)) ∧ Below W.heap.size W w' := by
  have hc := Tryz.utf8_ValidRune z W
  rw [hv] at hc
  have h1 : ¬ z < 128 := by omega
  have h0 : 0 ≤ z := by omega
  go_enter Tryz.func78, Tryz.ntmps78
  go_wp2_with (refine hc.mono ?_; rintro e w' ⟨rfl, rfl⟩)
  go_ret
  exact ⟨rfl, Below.refl _ _⟩
theorem idx_sgn (c : UInt8) (hc : 128 ≤ c.toNat) (n : Nat) (w : World) : Calls Tryz.prog 50 #[.string ((⟨H.signs.toArray⟩ : ByteArray).extract n 15), .int .u8 (c.toNat : Int)] w fun e w' => e = .returned (.int .i64 (-1)) ∧ w' = w := by
  have := Tryz.strings_IndexByte ((⟨H.signs.toArray⟩ : ByteArray).extract n 15) (c.toNat : Int) w
  rw [show ((c.toNat : Int).toNat.toUInt8) = c from by simp] at this
  rw [idx_none c hc _ (fun b hb => by
    rw [Lib.extract_eq] at hb
    have hm : b ∈ H.signs := List.mem_of_mem_drop (List.mem_of_mem_take hb)
    have : ∀ b ∈ H.signs, b.toNat < 128 := by decide
    exact this b hm)] at this
  exact this
theorem below_drewN' (w : World) : ∀ n, Below w.heap.size w (w.drewN n)
  | 0 => Below.refl _ _
  | n + 1 => (below_drewN' w n).drew
theorem sgn_good (W : World) (z : Int) (h : 128 ≤ z) (h2 : ¬ z = 65533) (hv : Lib.validRune z = true) (l : H.T) (n : Nat) (hn : 1 ≤ n ∧ n ≤ 3) (hl : l.length = n + 1) (hb : 128 ≤ (l[n]'(by omega)).toNat) (he : Utf8.encode z = ⟨l.toArray⟩) :
    Calls Tryz.prog 78 #[S H.signs, .int .i32 z] W fun e w' => e = .returned (.int .i64 (-1)) ∧ Below W.heap.size W w' := by
  have hc := Tryz.utf8_ValidRune z W
  rw [hv] at hc
  have h1 : ¬ z < 128 := by omega
  have h0 : 0 ≤ z := by omega
  obtain ⟨b, hbe⟩ : ∃ b, l[n]'(by omega) = b := ⟨_, rfl⟩
  rw [hbe] at hb
  obtain ⟨c, hcc⟩ : ∃ c : Int, c = (b.toNat : Int) := ⟨_, rfl⟩
  obtain ⟨d, hd⟩ : ∃ d : Int, d = ((H.signs[n]'(by show n < 15; omega)).toNat : Int) := ⟨_, rfl⟩
  have hd128 : d < 128 := by
    have : ∀ b ∈ H.signs, b.toNat < 128 := by decide
    have := this _ (List.getElem_mem (show n < H.signs.length from by show n < 15; omega))
    omega
  have hne : ¬ d = c := by omega
  have i1 : ∀ W, (Instr.index 9 (S H.signs) (.int .i64 (n : Int))).run Tryz.prog W = .ok (.int .u8 d) W := index_str H.signs n (by show n < 15; omega) d hd
  have i2 : ∀ W, (Instr.index 9 (.string ⟨l.toArray⟩) (.int .i64 (n : Int))).run Tryz.prog W = .ok (.int .u8 c) W := index_str l n (by omega) c (by rw [hbe]; exact hcc)
  have hi2 := fun w => idx_sgn b hb (n + 1) w
  rw [← hcc] at hi2
  have hcv : ∀ w, (convert 21 9 (.int .i32 z)).run Tryz.prog w = .ok (.string ⟨l.toArray⟩) w := fun w => by rw [← he]; exact run_convert_int_string w 21 9 .i32 z (by kernel_rfl) (by kernel_rfl)
  have hsz : ((⟨l.toArray⟩ : ByteArray).size : Int) = (n : Int) + 1 := by rw [S_size, hl]; rfl
  obtain ⟨E, hE⟩ : ∃ E : ByteArray, (⟨l.toArray⟩ : ByteArray) = E := ⟨_, rfl⟩
  rw [hE] at hcv hsz i2 he
  clear hv hbe hb hcc hd hE
  obtain ⟨k, hk⟩ : ∃ k : Int, k = (n : Int) := ⟨_, rfl⟩
  rw [← hk] at i1 i2 hsz
  have hk1 : 1 ≤ k := by omega
  have hk3 : k ≤ 3 := by omega
  have hi3 : ∀ w, Calls Tryz.prog 50 #[.string ((⟨H.signs.toArray⟩ : ByteArray).extract (k + 1).toNat 15), .int .u8 c] w fun e w' => e = .returned (.int .i64 (-1)) ∧ w' = w := by
    intro w
    rw [show (k + 1).toNat = n + 1 from by omega]
    exact hi2 w
  clear hi2 hk hl hn
  go_enter Tryz.func78, Tryz.ntmps78
  go_wp2_with (refine hc.mono ?_; rintro e w' ⟨rfl, rfl⟩)
  go_step3
  go_wp2
  go_loopw [9] (fun u wr => u = .int .i64 k ∧ wr = w') (fun _ _ => 0)
  case atStart => exact ⟨by first | rfl | (congr 1; omega), rfl⟩
  case round =>
    obtain ⟨rfl, rfl⟩ := hrel
    have hl15 : H.signs.length = 15 := rfl
    have hlt : k < 15 := by omega
    go_wp2
    go_step3
    go_wp2
    go_quiet (fail)
    go_wp2
    have hw1 : IntKind.i64.wrap (k + 1) = k + 1 := by rw [IntKind.wrap_i64]; omega
    have hw2 : 0 ≤ k + 1 := by omega
    have hw3 : k + 1 ≤ 15 := by omega
    go_quiet ((exact (hi3 _).mono fun e w'' h => ⟨h.1, _, h.2⟩))
    go_wp2
    simp only [Exit.noGoto_ret, Exit.inBlock]
    go_wp2
    simp only [Exit.noGoto_ret, Exit.inBlock]
    go_ret
    exact ⟨rfl, below_drewN' _ _⟩
theorem sgn_high (x : Nat) (h : 128 ≤ x) (W : World) (hx : x ≤ 1114111) : Calls Tryz.prog 78 #[S H.signs, .int .i32 (x : Int)] W fun e w' => e = .returned (.int .i64 (-1)) ∧ Below W.heap.size W w' := by
  by_cases h2 : x = 65533
  · subst h2; exact sgn_err W
  · cases hv : Lib.validRune (x : Int) with
    | false => exact sgn_bad W x (by omega) (by omega) hv
    | true =>
      rcases enc_high x h with ⟨a, b, he, hb⟩ | ⟨a, b, c, he, hb⟩ | ⟨a, b, c, d, he, hb⟩
      · exact sgn_good W x (by omega) (by omega) hv [a, b] 1 (by omega) rfl hb he
      · exact sgn_good W x (by omega) (by omega) hv [a, b, c] 2 (by omega) rfl hb he
      · exact sgn_good W x (by omega) (by omega) hv [a, b, c, d] 3 (by omega) rfl hb he
end Go.Proofs.YtomicdkmbgckkaaGreatDoor

/- HTTP: TABLES; THE WALKS OVER inToken, isOf, isValue, take, line. -/
namespace Go.Proofs.YtomicdkmbgckkaaGreatDoor
open Go.RowKit
set_option linter.unusedVariables false
set_option linter.unusedSimpArgs false
set_option maxRecDepth 100000

/-- what the library's variables hold -/
structure Tabs (w : World) : Prop where
  m : ∃ m, w.cell? ⟨0, 0, none⟩ = some (.int .i64 m)
  pow : Lib.TabIs Tryz.prog w "internal/strconv.uint64pow10" .u64 Lib.pow10Tab
  e2 : ∃ te pe, w.cell? ⟨1, 0, none⟩ = some (.iface te pe)
  e3 : ∃ te pe, w.cell? ⟨2, 0, none⟩ = some (.iface te pe)
  sz : 7 < w.heap.size
theorem cell_under {w w' : World} (hb : Below w.heap.size w w') {g i : Nat} (h : g < w.heap.size) : w'.cell? ⟨g, i, none⟩ = w.cell? ⟨g, i, none⟩ := hb.cell (p := ⟨g, i, none⟩) h
theorem tok_any (w : World) (x : Nat) (hx : x ≤ 1114111) : Calls Tryz.prog 33 #[.int .i32 (x : Int)] w fun e w' => e = .returned (.bool (H.tok x)) ∧ Below w.heap.size w w' := by
  have hl := letter_any w x hx
  have hd := digit_any w x hx
  unfold H.tok
  cases h1 : H.letter x with
  | true =>
    rw [h1] at hl
    go_enter Tryz.func33, Tryz.ntmps33
    go_wp2_with (refine hl.mono ?_; rintro e w' ⟨rfl, rfl⟩)
    go_ret
    exact ⟨by simp, Below.refl _ _⟩
  | false =>
    rw [h1] at hl
    cases h2 : H.digit x with
    | true =>
      rw [h2] at hd
      go_enter Tryz.func33, Tryz.ntmps33
      go_wp2_with (first | (go_at_call 55; refine hl.mono ?_; rintro e w' ⟨rfl, rfl⟩) | (go_at_call 56; refine hd.mono ?_; rintro e w' ⟨rfl, rfl⟩))
      go_ret
      exact ⟨by simp, Below.refl _ _⟩
    | false =>
      rw [h2] at hd
      by_cases h3 : x < 128
      · have hc := Tryz.strings_ContainsRune_ascii ⟨H.signs.toArray⟩ (x : Int) w (by omega) (by omega)
        have hv : (decide (0 ≤ Lib.indexByte (⟨H.signs.toArray⟩ : ByteArray).data.toList (x : Int).toNat.toUInt8)) = (decide (x < 128) && decide (0 ≤ Lib.indexByte H.signs x.toUInt8)) := by simp [h3]
        rw [hv] at hc
        obtain ⟨v, hv⟩ : ∃ v, (decide (x < 128) && decide (0 ≤ Lib.indexByte H.signs x.toUInt8)) = v := ⟨_, rfl⟩
        rw [hv] at hc ⊢
        go_enter Tryz.func33, Tryz.ntmps33
        go_wp2_with (first | (go_at_call 55; refine hl.mono ?_; rintro e w' ⟨rfl, rfl⟩) | (go_at_call 56; refine hd.mono ?_; rintro e w' ⟨rfl, rfl⟩) | (go_at_call 57; refine hc.mono ?_; rintro e w' ⟨rfl, rfl⟩))
        go_ret
        exact ⟨by simp, Below.refl _ _⟩
      · have hc : Calls Tryz.prog 57 #[S H.signs, .int .i32 (x : Int)] w fun e w' => e = .returned (.bool false) ∧ Below w.heap.size w w' := by
          have hi := sgn_high x (by omega) w hx
          go_enter Tryz.func57, Tryz.ntmps57
          go_wp2_with (refine hi.mono ?_; rintro e w' ⟨rfl, hb⟩)
          go_ret
          exact ⟨rfl, hb⟩
        go_enter Tryz.func33, Tryz.ntmps33
        go_wp2_with (first | (go_at_call 55; refine hl.mono ?_; rintro e w' ⟨rfl, rfl⟩) | (go_at_call 56; refine hd.mono ?_; rintro e w' ⟨rfl, rfl⟩) | (go_at_call 57; refine hc.mono ?_; rintro e w' ⟨rfl, hb⟩))
        go_ret
        exact ⟨by simp [h3], hb⟩
/-- a test of runes that is one of the program's functions -/
def Rune (f : Nat) (p : Nat → Bool) : Prop := ∀ (w : World) (x : Nat), x ≤ 1114111 → Calls Tryz.prog f #[.int .i32 (x : Int)] w fun e w' => e = .returned (.bool (p x)) ∧ Below w.heap.size w w'
theorem rune_tok : Rune 33 H.tok := tok_any
theorem rune_tgt : Rune 34 H.tgt := fun w x hx => (tgt_any w x hx).mono fun e w' h => ⟨h.1, by rw [h.2]; exact Below.refl _ _⟩
theorem rune_val : Rune 86 H.val := fun w x hx => (val_any w x hx).mono fun e w' h => ⟨h.1, by rw [h.2]; exact Below.refl _ _⟩
theorem isOf_any (w : World) (s : H.T) (f : Nat) (p : Nat → Bool) (hent : ∀ args w, (callFunc f args).run Tryz.prog w = .ok (.enter f args) w) (hr : Rune f p) (hp : ∀ x, 128 ≤ x → p x = p 128) :
    Calls Tryz.prog 32 #[S s, .func (.func f) #[] #[]] w fun e w' => e = .returned (.bool (H.isOf s p)) ∧ Below w.heap.size w w' := by
  rw [← H.isOf_eq s p hp]
  unfold H.isOfR
  obtain ⟨W, hW⟩ : ∃ W, W = w.alloc (.cells #[.func (.func f) #[] #[]] 87) := ⟨_, rfl⟩
  have hx : W.heap[w.heap.size]? = some (.cells #[.func (.func f) #[] #[]] 87 (0, 0)) := by rw [hW]; exact blk_new w _
  have hb : Below w.heap.size w W := by rw [hW]; exact (Below.refl _ w).alloc (Nat.le_refl _) _
  have hlt := blk_lt hx
  have hpg : PredGrows Tryz.prog 54 #[.pointer (some ⟨w.heap.size, 0, none⟩)] (fun x => !p x) W := by
    intro V x hxx hbV
    have hc : V.cell? ⟨w.heap.size, 0, none⟩ = some (.func (.func f) #[] #[]) := cell_of_row V w.heap.size 0 _ 87 (0, 0) (blk_under hx hbV)
    have hcall := hr V x hxx
    have hf := hent #[.int .i32 (x : Int)]
    show Calls Tryz.prog 54 #[.int .i32 (x : Int), .pointer (some ⟨w.heap.size, 0, none⟩)] V _
    go_enter Tryz.func54, Tryz.ntmps54
    go_wp2_with (refine hcall.mono ?_; rintro e w' ⟨rfl, hb2⟩)
    go_ret
    exact ⟨rfl, hb2⟩
  have hcf := Tryz.strings_ContainsFunc_grows 54 #[.pointer (some ⟨w.heap.size, 0, none⟩)] (fun args W => by kernel_rfl) (fun x => !p x) ⟨s.toArray⟩ W hpg
  obtain ⟨d, hd⟩ : ∃ d, decide (0 ≤ Lib.idxFunc (fun x => !p x) true ⟨s.toArray⟩) = d := ⟨_, rfl⟩
  rw [hd] at hcf ⊢
  clear hd hpg
  by_cases he : s = []
  · subst he
    go_enter Tryz.func32, Tryz.ntmps32
    go_upto_region 1 with (fail)
    rw [← hW]
    clear hW
    go_wp2
    go_ret
    exact ⟨rfl, hb⟩
  · have hne : ¬ (⟨s.toArray⟩ : ByteArray) = ⟨#[]⟩ := fun h => he ((S_inj (b := [])).1 h)
    have hie : s.isEmpty = false := by cases s with | nil => exact absurd rfl he | cons => rfl
    rw [hie]
    go_enter Tryz.func32, Tryz.ntmps32
    go_upto_region 1 with (fail)
    rw [← hW]
    clear hW
    go_wp2_with (refine hcf.mono ?_; rintro e w' ⟨rfl, hb2⟩)
    go_ret
    exact ⟨by simp, hb.trans (hb2.mono hb.size)⟩
end Go.Proofs.YtomicdkmbgckkaaGreatDoor
