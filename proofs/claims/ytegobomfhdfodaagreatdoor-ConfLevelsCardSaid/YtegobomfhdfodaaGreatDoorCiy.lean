/- CONF: strings.IndexAny OF AN ASCII TEXT IN ANY TEXT. -/
import Derived.Deep.WholeRow
import Derived.Test.YtegobomfhdfodaaGreatDoorCix
namespace Go.Proofs.YtegobomfhdfodaaGreatDoor
open Go.RowKit
set_option linter.unusedVariables false
set_option linter.unusedSimpArgs false
set_option maxRecDepth 100000

theorem noany_pad {s cs : K.T} {i k : Nat} (h : Lib.NoAny s cs i) (hk : ∀ c ∈ (s.drop i).take k, 128 ≤ c.toNat) (ha : ∀ b ∈ cs, b.toNat < 128) : Lib.NoAny s cs (i + k) := by
  intro j b hj hb
  by_cases hij : j < i
  · exact h j b hij hb
  · have hm : b ∈ (s.drop i).take k := by
      refine List.mem_iff_getElem?.2 ⟨j - i, ?_⟩
      rw [List.getElem?_take_of_lt (by omega), List.getElem?_drop, show i + (j - i) = j from by omega]
      exact hb
    have h1 := hk b hm
    cases hc : cs.contains b with
    | false => rfl
    | true =>
      have := ha b (by simpa using hc)
      omega
theorem noany_end {s cs : K.T} {i : Nat} (h : Lib.NoAny s cs i) (hi : s.length ≤ i) : Lib.NoAny s cs s.length := fun j b hj hb => h j b (by omega) hb
set_option maxHeartbeats 2000000 in
theorem ixa_short (cs : K.T) (ha : ∀ b ∈ cs, b.toNat < 128) (h4 : 4 ≤ cs.length) (hm : cs.length ≤ 1000) (s : K.T) (h8 : s.length ≤ 8) (W : World) :
    Calls Tryz.prog 86 #[S s, S cs] W fun e w' => e = .returned (.int .i64 (Lib.indexAny s cs)) ∧ Below W.heap.size W w' := by
  have hemp : List.isEmpty cs = false := by
    cases cs with
    | nil => simp at h4
    | cons _ _ => rfl
  have s1 := S_size cs
  have s2 := S_size s
  have hn1 : ((cs.length : Int) == 1) = false := beq_eq_false_iff_ne.2 (by omega)
  have h8z : decide ((8 : Int) < (s.length : Int)) = false := decide_eq_false (by omega)
  have HA := Lib.hid ha
  have H4 := Lib.hid (And.intro h4 hm)
  have H1 := Lib.hid s1
  have H2 := Lib.hid s2
  clear ha s1 s2
  go_enter Tryz.func86, Tryz.ntmps86
  go_wp2_with (go_at_call 112; go_loud (refine (Tryz.strings_shouldUseASCIISet _ _).mono ?_; rintro e w' ⟨rfl, hw⟩; rw [hw, h8z]))
  go_loopg [9, 10] s.length (fun gf _ _ wx => ∃ pos : Nat, wx.heap[W.heap.size]? = some (.stringIter ⟨s.toArray⟩ pos) ∧ Below W.heap.size W wx ∧ s.length ≤ pos + gf ∧ Lib.NoAny s cs pos)
  case atStart => exact ⟨0, World.iter_heap W _ 0, (Below.refl _ W).alloc (Nat.le_refl _) _, by omega, Lib.NoAny.zero _ _⟩
  case round =>
    obtain ⟨pos, hit, hbw, hfu, hno⟩ := hrel
    have HN := Lib.hid hno
    clear hno
    by_cases hps : pos < s.length
    · obtain ⟨g', rfl⟩ : ∃ g', gk = g' + 1 := ⟨gk - 1, by omega⟩
      have hsz : pos < (⟨s.toArray⟩ : ByteArray).size := by rw [H2.out]; exact hps
      have hnx : ∀ ty, (Instr.next (.pointer (some ⟨W.heap.size, 0, none⟩)) true ty).run Tryz.prog wr = _ := fun ty => Lib.run_next_any_at wr W.heap.size _ pos ty hit hsz
      have hdr : s.drop pos = s[pos] :: s.drop (pos + 1) := List.drop_eq_getElem_cons hps
      have hd := Lib.decodeL_drop ⟨s.toArray⟩ pos
      have hwd := Lib.width_pos ⟨s.toArray⟩ pos
      obtain ⟨x, hx⟩ : ∃ x, s[pos] = x := ⟨_, rfl⟩
      have hgx : s[pos]? = some x := by rw [List.getElem?_eq_getElem hps, hx]
      rw [hx] at hdr
      by_cases hx128 : x.toNat < 128
      · have e : Utf8.decode ⟨s.toArray⟩ pos = (x.toNat, 1) := by
          rw [← hd]
          show Lib.decodeL (s.drop pos) = _
          rw [hdr]
          exact Lib.decodeL_ascii _ _ hx128
        rw [e] at hnx
        have hit2 := Lib.iterAt_heap wr W.heap.size _ pos (pos + 1) hit
        have hbw2 := Lib.below_iterAt hbw (k := W.heap.size) (Nat.le_refl _) ⟨s.toArray⟩ (pos + 1)
        obtain ⟨V, hV⟩ : ∃ V, wr.iterAt W.heap.size ⟨s.toArray⟩ (pos + 1) = V := ⟨_, rfl⟩
        simp only at hnx
        rw [hV] at hnx hit2 hbw2
        have hcon := Lib.contains_iff_indexByte cs x
        have hback : ((x.toNat : Int)).toNat.toUInt8 = x := by simp
        have HX := Lib.hid hgx
        clear e hd hwd hdr hgx hV hit hsz hx
        cases hin : cs.contains x
        · rw [hin] at hcon
          have hlt : ¬ ((0 : Int) ≤ Lib.indexByte cs x) := of_decide_eq_false hcon.symm
          clear hcon
          go_wp2_with (go_at_call 111; refine (Tryz.strings_IndexRune_ascii ⟨cs.toArray⟩ (x.toNat : Int) _ (by omega) (by omega)).mono ?_; rintro e w' ⟨rfl, hw⟩; rw [hw, hback])
          go_roundg g'
          case measure => omega
          case rel => exact ⟨pos + 1, hit2, hbw2, by omega, HN.out.succ HX.out hin⟩
        · rw [hin] at hcon
          have hge : (0 : Int) ≤ Lib.indexByte cs x := of_decide_eq_true hcon.symm
          clear hcon
          go_wp2_with (go_at_call 111; refine (Tryz.strings_IndexRune_ascii ⟨cs.toArray⟩ (x.toNat : Int) _ (by omega) (by omega)).mono ?_; rintro e w' ⟨rfl, hw⟩; rw [hw, hback])
          go_ret
          exact ⟨by rw [Lib.indexAny_hit HN.out HX.out hin]; rfl, hbw2⟩
      · have hh := dec_hi _ x _ hdr (by omega)
        have hd' : Lib.decodeL (s.drop pos) = Utf8.decode ⟨s.toArray⟩ pos := hd
        rw [hd'] at hh
        obtain ⟨k1, k2, k3⟩ := hh
        obtain ⟨R, hR⟩ : ∃ R, (Utf8.decode ⟨s.toArray⟩ pos).1 = R := ⟨_, rfl⟩
        obtain ⟨z, hz⟩ : ∃ z, (Utf8.decode ⟨s.toArray⟩ pos).2 = z := ⟨_, rfl⟩
        rw [hR] at hnx k1
        rw [hz] at hnx k2 k3 hwd
        have hit2 := Lib.iterAt_heap wr W.heap.size _ pos (pos + z) hit
        have hbw2 := Lib.below_iterAt hbw (k := W.heap.size) (Nat.le_refl _) ⟨s.toArray⟩ (pos + z)
        obtain ⟨V, hV⟩ : ∃ V, wr.iterAt W.heap.size ⟨s.toArray⟩ (pos + z) = V := ⟨_, rfl⟩
        rw [hV] at hnx hit2 hbw2
        have HK := Lib.hid (And.intro k2 k3)
        have hrn := rn_high cs HA.out H4.out.1 H4.out.2 R k1 V
        clear hd hd' hdr hgx hV hit hsz hx hR hz k2 k3
        go_wp2_with (go_at_call 111; refine hrn.mono ?_; rintro e w' ⟨rfl, hw⟩)
        go_roundg g'
        case measure => omega
        case rel => exact ⟨pos + z, blk_under hit2 hw, hbw2.trans (hw.mono hbw2.size), by omega, noany_pad HN.out HK.out.2 HA.out⟩
    · have hnx : ∀ ty, (Instr.next (.pointer (some ⟨W.heap.size, 0, none⟩)) true ty).run Tryz.prog wr = _ := fun ty => Lib.run_next_end_at wr W.heap.size _ pos ty hit (by rw [H2.out]; exact hps)
      go_wp2
      go_ret
      exact ⟨by rw [Lib.indexAny_none (noany_end HN.out (by omega))]; rfl, hbw⟩
theorem ixa_any (cs : K.T) (ha : ∀ b ∈ cs, b.toNat < 128) (h4 : 4 ≤ cs.length) (hm : cs.length ≤ 1000) (s : K.T) (hs : s.length ≤ 1000000000) (W : World) :
    Calls Tryz.prog 86 #[S s, S cs] W fun e w' => e = .returned (.int .i64 (Lib.indexAny s cs)) ∧ Below W.heap.size W w' := by
  have s1 := S_size cs
  have s2 := S_size s
  by_cases h8 : s.length ≤ 8
  · exact ixa_short cs ha h4 hm s h8 W
  · refine (Tryz.strings_IndexAny_long (zero_of_info (n := 256) (by kernel_rfl)).1 ⟨s.toArray⟩ ⟨cs.toArray⟩ W (by omega) (by omega) (by omega) (by omega) (fun j b hj => ha b (List.mem_of_getElem? hj))).mono fun e w' h => ⟨h.1, ?_⟩
    rw [h.2]
    exact ((Below.refl _ W).alloc (Nat.le_refl _) _).alloc (by simp) _
end Go.Proofs.YtegobomfhdfodaaGreatDoor
