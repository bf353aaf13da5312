/- CONF: strings.IndexRune OF A RUNE BEYOND ASCII IN AN ASCII TEXT; strings.IndexAny OF AN ASCII TEXT IN ANY TEXT. -/
import Derived.Lib.SpaceUEq
import Derived.Shelf.GgClosure.StringsIndexFunc
import Derived.Deep.LoopGhost
import Derived.Lib.IndexMore
import Derived.WalkMore
import Derived.Deep.RegionHeld3
import Derived.Test.YtegobomfhdfodaaGreatDoorCa
namespace Go.Proofs.YtegobomfhdfodaaGreatDoor
open Go.RowKit
set_option linter.unusedVariables false
set_option linter.unusedSimpArgs false
set_option maxRecDepth 100000

theorem dec_hi (l : K.T) (b : UInt8) (t : K.T) (hl : l = b :: t) (hb : 128 ≤ b.toNat) : 128 ≤ (Lib.decodeL l).1 ∧ (Lib.decodeL l).2 ≤ l.length ∧ ∀ c ∈ l.take (Lib.decodeL l).2, 128 ≤ c.toNat := by
  have hc := Lib.decodeN_conts l.length (l.getD 0 0).toNat (l.getD 1 0).toNat (l.getD 2 0).toNat (l.getD 3 0).toNat
  have hk := Lib.decodeN_cases l.length (l.getD 0 0).toNat (l.getD 1 0).toNat (l.getD 2 0).toNat (l.getD 3 0).toNat
  rw [← Lib.decodeL_N] at hc hk
  have hw := Lib.decodeL_width l
  have h0 : (l.getD 0 0).toNat = b.toNat := by rw [hl]; rfl
  have hlen : 0 < l.length := by rw [hl]; simp
  obtain ⟨c2, c3, c4, c5⟩ := hc
  have h1 : 128 ≤ (Lib.decodeL l).1 := by
    rcases hk with ⟨h, _⟩ | ⟨_, _, _, h, e⟩ | ⟨_, _, _, _, h, e⟩ | ⟨h, _⟩ | e
    · omega
    · rw [e]; exact h
    · rw [e]; simp only; omega
    · omega
    · rw [e]; simp only; omega
  refine ⟨h1, by omega, ?_⟩
  intro c hcm
  obtain ⟨i, hi, rfl⟩ := List.getElem_of_mem hcm
  simp only [List.length_take] at hi
  rw [List.getElem_take]
  have e : l[i]'(by omega) = l.getD i 0 := by rw [List.getD_eq_getElem?_getD, List.getElem?_eq_getElem (by omega)]; rfl
  rw [e]
  have : i = 0 ∨ i = 1 ∨ i = 2 ∨ i = 3 := by omega
  rcases this with rfl | rfl | rfl | rfl <;> omega
theorem enc_high (x : Nat) (h : 128 ≤ x) : (∃ a b, Utf8.encode (x : Int) = ⟨#[a, b]⟩ ∧ 128 ≤ b.toNat) ∨ (∃ a b c, Utf8.encode (x : Int) = ⟨#[a, b, c]⟩ ∧ 128 ≤ c.toNat) ∨ (∃ a b c d, Utf8.encode (x : Int) = ⟨#[a, b, c, d]⟩ ∧ 128 ≤ d.toNat) := by
  have hb : ∀ n, 128 ≤ (UInt8.ofNat (128 + n % 64)).toNat := fun n => by rw [UInt8.toNat_ofNat']; omega
  unfold Utf8.encode
  simp only
  obtain ⟨c, hc⟩ : ∃ c, (if Utf8.valid (x : Int) then (x : Int).toNat else Utf8.runeError) = c := ⟨_, rfl⟩
  have hlo : 128 ≤ c := by rw [← hc]; split <;> simp [Utf8.runeError] <;> omega
  rw [hc, if_neg (by omega)]
  split
  · exact .inl ⟨_, _, rfl, hb _⟩
  · split
    · exact .inr (.inl ⟨_, _, _, rfl, hb _⟩)
    · exact .inr (.inr ⟨_, _, _, _, rfl, hb _⟩)
theorem idx_none (c : UInt8) (hc : 128 ≤ c.toNat) : ∀ l : K.T, (∀ b ∈ l, b.toNat < 128) → Lib.indexByte l c = -1
  | [], _ => rfl
  | b :: t, h => by
    have h1 : ¬ b = c := fun e => by have := h b (by simp); rw [e] at this; omega
    have := idx_none c hc t (fun x hx => h x (by simp [hx]))
    simp [Lib.indexByte, h1, this]
theorem dec_asc (cs : K.T) (ha : ∀ b ∈ cs, b.toNat < 128) (pos : Nat) (h : pos < cs.length) : (Utf8.decode ⟨cs.toArray⟩ pos).1 < 128 ∧ (Utf8.decode ⟨cs.toArray⟩ pos).2 = 1 := by
  have hdr : cs.drop pos = cs[pos] :: cs.drop (pos + 1) := List.drop_eq_getElem_cons h
  have hd := Lib.decodeL_drop ⟨cs.toArray⟩ pos
  have hb := ha _ (List.getElem_mem h)
  have e : Utf8.decode ⟨cs.toArray⟩ pos = (cs[pos].toNat, 1) := by
    rw [← hd]
    show Lib.decodeL (cs.drop pos) = _
    rw [hdr]
    exact Lib.decodeL_ascii _ _ hb
  rw [e]
  exact ⟨hb, rfl⟩
theorem rn_err (cs : K.T) (ha : ∀ b ∈ cs, b.toNat < 128) (W : World) : Calls Tryz.prog 111 #[S cs, .int .i32 65533] W fun e w' => e = .returned (.int .i64 (-1)) ∧ Below W.heap.size W w' := by
  have HA := Lib.hid ha
  clear ha
  go_enter Tryz.func111, Tryz.ntmps111
  go_wp2
  go_loopg [] cs.length (fun gf wx => ∃ pos : Nat, wx.heap[W.heap.size]? = some (.stringIter ⟨cs.toArray⟩ pos) ∧ Below W.heap.size W wx ∧ cs.length ≤ pos + gf)
  case atStart => exact ⟨0, World.iter_heap W _ 0, (Below.refl _ W).alloc (Nat.le_refl _) _, by omega⟩
  case round =>
    obtain ⟨pos, hit, hbw, hfu⟩ := hrel
    by_cases hps : pos < cs.length
    · obtain ⟨g', rfl⟩ : ∃ g', gk = g' + 1 := ⟨gk - 1, by omega⟩
      have hsz : pos < (⟨cs.toArray⟩ : ByteArray).size := by rw [S_size]; exact hps
      have hnx : ∀ ty, (Instr.next (.pointer (some ⟨W.heap.size, 0, none⟩)) true ty).run Tryz.prog wr = _ := fun ty => Lib.run_next_any_at wr W.heap.size _ pos ty hit hsz
      obtain ⟨hd1, hd2⟩ := dec_asc cs HA.out pos hps
      obtain ⟨R, hR⟩ : ∃ R, (Utf8.decode ⟨cs.toArray⟩ pos).1 = R := ⟨_, rfl⟩
      rw [hR] at hnx hd1
      rw [hd2] at hnx
      have hit2 := Lib.iterAt_heap wr W.heap.size _ pos (pos + 1) hit
      have hbw2 := Lib.below_iterAt hbw (k := W.heap.size) (Nat.le_refl _) ⟨cs.toArray⟩ (pos + 1)
      obtain ⟨V, hV⟩ : ∃ V, wr.iterAt W.heap.size ⟨cs.toArray⟩ (pos + 1) = V := ⟨_, rfl⟩
      rw [hV] at hnx hit2 hbw2
      have hne : ¬ (R : Int) = 65533 := by omega
      clear hd2 hR hV hit hsz
      go_wp2
      go_roundg g'
      case measure => omega
      case rel => exact ⟨pos + 1, hit2, hbw2, by omega⟩
    · have hnx : ∀ ty, (Instr.next (.pointer (some ⟨W.heap.size, 0, none⟩)) true ty).run Tryz.prog wr = _ := fun ty => Lib.run_next_end_at wr W.heap.size _ pos ty hit (by rw [S_size]; exact hps)
      go_wp2
      go_ret
      exact ⟨rfl, hbw⟩
theorem rn_bad (cs : K.T) (W : World) (z : Int) (h : 128 ≤ z) (h2 : ¬ z = 65533) (hv : Lib.validRune z = false) : Calls Tryz.prog 111 #[S cs, .int .i32 z] W fun e w' => e = .returned (.int .i64 (-1)) ∧ Below W.heap.size W w' := by
  have hc := Tryz.utf8_ValidRune z W
  rw [hv] at hc
  have h1 : ¬ z < 128 := by omega
  have h0 : 0 ≤ z := by omega
  go_enter Tryz.func111, Tryz.ntmps111
  go_wp2_with (refine hc.mono ?_; rintro e w' ⟨rfl, rfl⟩)
  go_ret
  exact ⟨rfl, Below.refl _ _⟩
theorem rn_idx (cs : K.T) (ha : ∀ b ∈ cs, b.toNat < 128) (c : UInt8) (hc : 128 ≤ c.toNat) (n : Nat) (w : World) : Calls Tryz.prog 106 #[.string ((⟨cs.toArray⟩ : ByteArray).extract n cs.length), .int .u8 (c.toNat : Int)] w fun e w' => e = .returned (.int .i64 (-1)) ∧ w' = w := by
  have := Tryz.strings_IndexByte ((⟨cs.toArray⟩ : ByteArray).extract n cs.length) (c.toNat : Int) w
  rw [show ((c.toNat : Int).toNat.toUInt8) = c from by simp] at this
  rw [idx_none c hc _ (fun b hb => by
    rw [Lib.extract_eq] at hb
    have hm : b ∈ cs := List.mem_of_mem_drop (List.mem_of_mem_take hb)
    exact ha b hm)] at this
  exact this
theorem below_drewN' (w : World) : ∀ n, Below w.heap.size w (w.drewN n)
  | 0 => Below.refl _ _
  | n + 1 => (below_drewN' w n).drew
theorem rn_good (cs : K.T) (ha : ∀ b ∈ cs, b.toNat < 128) (h4 : 4 ≤ cs.length) (hm : cs.length ≤ 1000) (W : World) (z : Int) (h : 128 ≤ z) (h2 : ¬ z = 65533) (hv : Lib.validRune z = true) (l : K.T) (n : Nat) (hn : 1 ≤ n ∧ n ≤ 3) (hl : l.length = n + 1) (hb : 128 ≤ (l[n]'(by omega)).toNat) (he : Utf8.encode z = ⟨l.toArray⟩) :
    Calls Tryz.prog 111 #[S cs, .int .i32 z] W fun e w' => e = .returned (.int .i64 (-1)) ∧ Below W.heap.size W w' := by
  have hc := Tryz.utf8_ValidRune z W
  rw [hv] at hc
  have h1 : ¬ z < 128 := by omega
  have h0 : 0 ≤ z := by omega
  obtain ⟨b, hbe⟩ : ∃ b, l[n]'(by omega) = b := ⟨_, rfl⟩
  rw [hbe] at hb
  obtain ⟨c, hcc⟩ : ∃ c : Int, c = (b.toNat : Int) := ⟨_, rfl⟩
  obtain ⟨d, hd⟩ : ∃ d : Int, d = ((cs[n]'(by omega)).toNat : Int) := ⟨_, rfl⟩
  have hd128 : d < 128 := by
    have := ha _ (List.getElem_mem (show n < cs.length from by omega))
    omega
  have hne : ¬ d = c := by omega
  have i1 : ∀ W, (Instr.index 9 (S cs) (.int .i64 (n : Int))).run Tryz.prog W = .ok (.int .u8 d) W := index_str cs n (by omega) d hd
  have i2 : ∀ W, (Instr.index 9 (.string ⟨l.toArray⟩) (.int .i64 (n : Int))).run Tryz.prog W = .ok (.int .u8 c) W := index_str l n (by omega) c (by rw [hbe]; exact hcc)
  have hi2 := fun w => rn_idx cs ha b hb (n + 1) w
  rw [← hcc] at hi2
  have hcv : ∀ w, (convert 21 9 (.int .i32 z)).run Tryz.prog w = .ok (.string ⟨l.toArray⟩) w := fun w => by rw [← he]; exact run_convert_int_string w 21 9 .i32 z (by kernel_rfl) (by kernel_rfl)
  have hsz : ((⟨l.toArray⟩ : ByteArray).size : Int) = (n : Int) + 1 := by rw [S_size, hl]; rfl
  obtain ⟨E, hE⟩ : ∃ E : ByteArray, (⟨l.toArray⟩ : ByteArray) = E := ⟨_, rfl⟩
  rw [hE] at hcv hsz i2 he
  clear hv hbe hb hcc hd hE ha
  obtain ⟨k, hk⟩ : ∃ k : Int, k = (n : Int) := ⟨_, rfl⟩
  rw [← hk] at i1 i2 hsz
  have hk1 : 1 ≤ k := by omega
  have hk3 : k ≤ 3 := by omega
  have hi3 : ∀ w, Calls Tryz.prog 106 #[.string ((⟨cs.toArray⟩ : ByteArray).extract (k + 1).toNat cs.length), .int .u8 c] w fun e w' => e = .returned (.int .i64 (-1)) ∧ w' = w := by
    intro w
    rw [show (k + 1).toNat = n + 1 from by omega]
    exact hi2 w
  have h4k : k < (cs.length : Int) := by omega
  clear hi2 hk hl hn
  go_enter Tryz.func111, Tryz.ntmps111
  go_wp2_with (refine hc.mono ?_; rintro e w' ⟨rfl, rfl⟩)
  go_step3
  go_wp2
  go_loopw [9] (fun u wr => u = .int .i64 k ∧ wr = w') (fun _ _ => 0)
  case atStart => exact ⟨by first | rfl | (congr 1; omega), rfl⟩
  case round =>
    obtain ⟨rfl, rfl⟩ := hrel
    have hlt : k < (cs.length : Int) := by omega
    have hcsz := S_size cs
    go_wp2
    go_step3
    go_wp2
    go_quiet (fail)
    go_wp2
    have hw1 : IntKind.i64.wrap (k + 1) = k + 1 := by rw [IntKind.wrap_i64]; omega
    have hw2 : 0 ≤ k + 1 := by omega
    have hw3 : k + 1 ≤ (cs.length : Int) := by omega
    go_quiet ((exact (hi3 _).mono fun e w'' h => ⟨h.1, _, h.2⟩))
    go_wp2
    simp only [Exit.noGoto_ret, Exit.inBlock]
    go_wp2
    simp only [Exit.noGoto_ret, Exit.inBlock]
    go_ret
    exact ⟨rfl, below_drewN' _ _⟩
theorem rn_high (cs : K.T) (ha : ∀ b ∈ cs, b.toNat < 128) (h4 : 4 ≤ cs.length) (hm : cs.length ≤ 1000) (x : Nat) (h : 128 ≤ x) (W : World) : Calls Tryz.prog 111 #[S cs, .int .i32 (x : Int)] W fun e w' => e = .returned (.int .i64 (-1)) ∧ Below W.heap.size W w' := by
  by_cases h2 : x = 65533
  · subst h2; exact rn_err cs ha W
  · cases hv : Lib.validRune (x : Int) with
    | false => exact rn_bad cs W x (by omega) (by omega) hv
    | true =>
      rcases enc_high x h with ⟨a, b, he, hb⟩ | ⟨a, b, c, he, hb⟩ | ⟨a, b, c, d, he, hb⟩
      · exact rn_good cs ha h4 hm W x (by omega) (by omega) hv [a, b] 1 (by omega) rfl hb he
      · exact rn_good cs ha h4 hm W x (by omega) (by omega) hv [a, b, c] 2 (by omega) rfl hb he
      · exact rn_good cs ha h4 hm W x (by omega) (by omega) hv [a, b, c, d] 3 (by omega) rfl hb he
end Go.Proofs.YtegobomfhdfodaaGreatDoor
