/- CONF: THE WALK OVER quoted (what is written). -/
import Derived.Test.YtegobomfhdfodaaGreatDoorCj
namespace Go.Proofs.YtegobomfhdfodaaGreatDoor
open Go.RowKit
set_option maxRecDepth 100000
set_option linter.unusedVariables false
set_option linter.unusedSimpArgs false

namespace K
def esc1 (b : UInt8) : T := if b = 92 then [92, 92] else if b = 34 then [92, 34] else if b = 10 then [92, 110] else if b = 9 then [92, 116] else [b]
/-- a text in quotes -/
def quo (l : T) : T := 34 :: (l.flatMap esc1 ++ [34])
end K
set_option maxHeartbeats 4000000 in
theorem quo_any (w : World) (l : K.T) (hl : l.length ≤ 1000000) : Calls Tryz.prog 75 #[S l] w fun e w' => e = .returned (S (K.quo l)) ∧ Below w.heap.size w w' := by
  obtain ⟨W, hW⟩ : ∃ W, W = w.alloc (.cells #[.pointer none, .slice none 0 0] 56) := ⟨_, rfl⟩
  have hnew : IsB w.heap.size w.heap.size [] W := by rw [hW]; exact IsB.new w
  have hsz : w.heap.size < W.heap.size := by rw [hW, World.size_alloc]; omega
  have hlow0 : Below w.heap.size w W := by rw [hW]; exact (Below.refl _ w).alloc (Nat.le_refl _) _
  have HW := Lib.hid hW
  have HL := Lib.hid hl
  clear hW hl
  go_enter Tryz.func75, Tryz.ntmps75
  go_wp2_with fail
  rw [← HW.out]
  refine (write_byte w.heap.size w.heap.size [] 34 W hnew (by simp) (by omega)).mono ?_
  rintro e w1 ⟨rfl, hib, hbb⟩
  have HB1 := Lib.hid hib
  have HLOW := Lib.hid (hlow0.trans (hbb.mono (Nat.le_refl _)))
  have s1 := S_size l
  clear hib hbb hlow0 hnew
  go_wp2
  go_loopg [4, 5, 9] (l.length + 1) (fun gf v4 v5 v9 wx => ∃ (i : Nat) (acc : K.T), v9 = .int .i64 (i : Int) ∧ i + gf = l.length + 1 ∧ IsB w.heap.size w.heap.size acc wx ∧ Below w.heap.size w wx ∧ 34 :: l.flatMap K.esc1 = acc ++ (l.drop i).flatMap K.esc1 ∧ acc.length ≤ 1 + 2 * i)
  case atStart => exact ⟨0, [34], rfl, by omega, HB1.out, HLOW.out, by simp, by simp⟩
  case round =>
    obtain ⟨i, acc, rfl, hgf, hbl, hlow, hfin, hal⟩ := hrel
    have HB := Lib.hid hbl
    have hgs := hlow.size
    by_cases hi : i < l.length
    · obtain ⟨k, rfl⟩ : ∃ k, gk = k + 1 := ⟨gk - 1, by omega⟩
      have HA := Lib.hid (show acc.length ≤ 3000000 from by have := HL.out; omega)
      have hdr : l.drop i = l[i] :: l.drop (i + 1) := List.drop_eq_getElem_cons hi
      have hil : (i : Int) < (l.length : Int) := by omega
      obtain ⟨b, hb⟩ : ∃ b, l[i] = b := ⟨_, rfl⟩
      have hx := fun W => index_str l i hi (b.toNat : Int) (by rw [hb]) W
      rw [hb] at hdr
      have hix : ∀ w, Calls Tryz.prog 106 #[.string ⟨#[92, 34, 10, 9]⟩, .int .u8 (b.toNat : Int)] w fun e w' => e = .returned (.int .i64 (Lib.indexByte [92, 34, 10, 9] b)) ∧ w = w' := fun w => by
        have h := Tryz.strings_IndexByte ⟨#[92, 34, 10, 9]⟩ (b.toNat : Int) w
        rw [show ((b.toNat : Int).toNat.toUInt8) = b from by simp] at h
        exact h.mono fun e w' h => ⟨h.1, h.2.symm⟩
      clear hb hbl
      by_cases h0 : b = 92
      · subst h0
        have hw92 : Calls Tryz.prog 105 #[.pointer (some ⟨w.heap.size, 0, none⟩), .int .u8 92] wr fun e w' => e = .returned .nilIface ∧ (IsB w.heap.size w.heap.size (acc ++ [92]) w' ∧ Below w.heap.size wr w') := write_byte w.heap.size w.heap.size acc 92 wr HB.out (by have := HA.out; omega) hgs
        go_wp2_with (first | (go_at_call 106; refine (hix _).mono ?_; rintro e w1 ⟨rfl, rfl⟩) | (go_at_call 105; with_reducible refine hw92.mono ?_; rintro e w2 ⟨rfl, hib2, hbb2⟩; have hs2 := hbb2.size; have HB2 := Lib.hid hib2; have HBB := Lib.hid (hlow.trans (hbb2.mono (by omega))); clear hib2 hbb2 hlow))
        refine (write_byte w.heap.size w.heap.size (acc ++ [92]) 92 w2 HB2.out (by have := HA.out; simp; omega) (by omega)).mono ?_
        rintro e w3 ⟨rfl, hib3, hbb3⟩
        have HB3 := Lib.hid hib3
        have HBB3 := Lib.hid (HBB.out.trans (hbb3.mono (by omega)))
        clear hib3 hbb3
        go_wp2
        go_roundg k
        case measure => omega
        case rel => exact ⟨i + 1, acc ++ [92] ++ [92], by have := HL.out; rw [show wrap64 ((i : Int) + 1) = ((i + 1 : Nat) : Int) from by unfold wrap64; omega], by omega, HB3.out, HBB3.out, by rw [hdr] at hfin; simpa [K.esc1, List.append_assoc] using hfin, by have := HA.out; simp; omega⟩
      · skip
        by_cases h1 : b = 34
        · subst h1
          have hw92 : Calls Tryz.prog 105 #[.pointer (some ⟨w.heap.size, 0, none⟩), .int .u8 92] wr fun e w' => e = .returned .nilIface ∧ (IsB w.heap.size w.heap.size (acc ++ [92]) w' ∧ Below w.heap.size wr w') := write_byte w.heap.size w.heap.size acc 92 wr HB.out (by have := HA.out; omega) hgs
          go_wp2_with (first | (go_at_call 106; refine (hix _).mono ?_; rintro e w1 ⟨rfl, rfl⟩) | (go_at_call 105; with_reducible refine hw92.mono ?_; rintro e w2 ⟨rfl, hib2, hbb2⟩; have hs2 := hbb2.size; have HB2 := Lib.hid hib2; have HBB := Lib.hid (hlow.trans (hbb2.mono (by omega))); clear hib2 hbb2 hlow))
          refine (write_byte w.heap.size w.heap.size (acc ++ [92]) 34 w2 HB2.out (by have := HA.out; simp; omega) (by omega)).mono ?_
          rintro e w3 ⟨rfl, hib3, hbb3⟩
          have HB3 := Lib.hid hib3
          have HBB3 := Lib.hid (HBB.out.trans (hbb3.mono (by omega)))
          clear hib3 hbb3
          go_wp2
          go_roundg k
          case measure => omega
          case rel => exact ⟨i + 1, acc ++ [92] ++ [34], by have := HL.out; rw [show wrap64 ((i : Int) + 1) = ((i + 1 : Nat) : Int) from by unfold wrap64; omega], by omega, HB3.out, HBB3.out, by rw [hdr] at hfin; simpa [K.esc1, List.append_assoc] using hfin, by have := HA.out; simp; omega⟩
        · skip
          by_cases h2 : b = 10
          · subst h2
            have hw92 : Calls Tryz.prog 105 #[.pointer (some ⟨w.heap.size, 0, none⟩), .int .u8 92] wr fun e w' => e = .returned .nilIface ∧ (IsB w.heap.size w.heap.size (acc ++ [92]) w' ∧ Below w.heap.size wr w') := write_byte w.heap.size w.heap.size acc 92 wr HB.out (by have := HA.out; omega) hgs
            go_wp2_with (first | (go_at_call 106; refine (hix _).mono ?_; rintro e w1 ⟨rfl, rfl⟩) | (go_at_call 105; with_reducible refine hw92.mono ?_; rintro e w2 ⟨rfl, hib2, hbb2⟩; have hs2 := hbb2.size; have HB2 := Lib.hid hib2; have HBB := Lib.hid (hlow.trans (hbb2.mono (by omega))); clear hib2 hbb2 hlow))
            refine (write_byte w.heap.size w.heap.size (acc ++ [92]) 110 w2 HB2.out (by have := HA.out; simp; omega) (by omega)).mono ?_
            rintro e w3 ⟨rfl, hib3, hbb3⟩
            have HB3 := Lib.hid hib3
            have HBB3 := Lib.hid (HBB.out.trans (hbb3.mono (by omega)))
            clear hib3 hbb3
            go_wp2
            go_roundg k
            case measure => omega
            case rel => exact ⟨i + 1, acc ++ [92] ++ [110], by have := HL.out; rw [show wrap64 ((i : Int) + 1) = ((i + 1 : Nat) : Int) from by unfold wrap64; omega], by omega, HB3.out, HBB3.out, by rw [hdr] at hfin; simpa [K.esc1, List.append_assoc] using hfin, by have := HA.out; simp; omega⟩
          · skip
            by_cases h3 : b = 9
            · subst h3
              have hw92 : Calls Tryz.prog 105 #[.pointer (some ⟨w.heap.size, 0, none⟩), .int .u8 92] wr fun e w' => e = .returned .nilIface ∧ (IsB w.heap.size w.heap.size (acc ++ [92]) w' ∧ Below w.heap.size wr w') := write_byte w.heap.size w.heap.size acc 92 wr HB.out (by have := HA.out; omega) hgs
              go_wp2_with (first | (go_at_call 106; refine (hix _).mono ?_; rintro e w1 ⟨rfl, rfl⟩) | (go_at_call 105; with_reducible refine hw92.mono ?_; rintro e w2 ⟨rfl, hib2, hbb2⟩; have hs2 := hbb2.size; have HB2 := Lib.hid hib2; have HBB := Lib.hid (hlow.trans (hbb2.mono (by omega))); clear hib2 hbb2 hlow))
              refine (write_byte w.heap.size w.heap.size (acc ++ [92]) 116 w2 HB2.out (by have := HA.out; simp; omega) (by omega)).mono ?_
              rintro e w3 ⟨rfl, hib3, hbb3⟩
              have HB3 := Lib.hid hib3
              have HBB3 := Lib.hid (HBB.out.trans (hbb3.mono (by omega)))
              clear hib3 hbb3
              go_wp2
              go_roundg k
              case measure => omega
              case rel => exact ⟨i + 1, acc ++ [92] ++ [116], by have := HL.out; rw [show wrap64 ((i : Int) + 1) = ((i + 1 : Nat) : Int) from by unfold wrap64; omega], by omega, HB3.out, HBB3.out, by rw [hdr] at hfin; simpa [K.esc1, List.append_assoc] using hfin, by have := HA.out; simp; omega⟩
            · skip
              have hno : Lib.indexByte [92, 34, 10, 9] b = -1 := by simp [Lib.indexByte, Ne.symm h0, Ne.symm h1, Ne.symm h2, Ne.symm h3]
              rw [hno] at hix
              have hesc : K.esc1 b = [b] := by unfold K.esc1; rw [if_neg h0, if_neg h1, if_neg h2, if_neg h3]
              go_wp2_with (first | (go_at_call 106; refine (hix _).mono ?_; rintro e w1 ⟨rfl, rfl⟩) | (go_at_call 105; refine (write_byte w.heap.size w.heap.size acc b wr HB.out (by have := HA.out; omega) hgs).mono ?_; rintro e w2 ⟨rfl, hib2, hbb2⟩))
              have hs2 := hbb2.size
              have HB2 := Lib.hid hib2
              have HBB := Lib.hid (hlow.trans (hbb2.mono (by omega)))
              clear hib2 hbb2 hlow
              go_roundg k
              case measure => omega
              case rel => exact ⟨i + 1, acc ++ [b], by have := HL.out; rw [show wrap64 ((i : Int) + 1) = ((i + 1 : Nat) : Int) from by unfold wrap64; omega], by omega, HB2.out, HBB.out, by rw [hdr] at hfin; simpa [hesc, List.append_assoc] using hfin, by have := HA.out; simp; omega⟩
    · have hil : ¬ (i : Int) < (l.length : Int) := by omega
      have hfin' : 34 :: l.flatMap K.esc1 = acc := by rw [hfin, List.drop_of_length_le (by omega)]; simp
      have HA := Lib.hid (show acc.length ≤ 3000000 from by have := HL.out; omega)
      clear hfin hbl
      go_wp2_with fail
      refine (write_byte w.heap.size w.heap.size acc 34 wr HB.out (by have := HA.out; omega) hgs).mono ?_
      rintro e w2 ⟨rfl, hib2, hbb2⟩
      have hs2 := hbb2.size
      go_wp2_with fail
      refine (str_any w.heap.size w.heap.size (acc ++ [34]) w2 hib2 (by omega)).mono ?_
      rintro e w3 ⟨rfl, hb3⟩
      go_wp2
      go_ret
      refine ⟨?_, (hlow.trans (hbb2.mono (Nat.le_refl _))).trans hb3⟩
      rw [show K.quo l = acc ++ [34] from by rw [← hfin']; rfl]
      rfl
end Go.Proofs.YtegobomfhdfodaaGreatDoor
