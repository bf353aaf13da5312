/- CONF: THE WALK OVER list. -/
import Derived.Test.YtegobomfhdfodaaGreatDoorDf
import Derived.Test.YtegobomfhdfodaaGreatDoorDd
namespace Go.Proofs.YtegobomfhdfodaaGreatDoor
open Go.RowKit
set_option maxRecDepth 100000
set_option linter.unusedVariables false
set_option linter.unusedSimpArgs false

theorem quo_len (l : K.T) : (K.quo l).length ≤ 2 * l.length + 2 := by
  have h1 : ∀ x, (K.esc1 x).length ≤ 2 := by intro x; unfold K.esc1; (repeat' split) <;> simp
  have h2 : ∀ l : K.T, (l.flatMap K.esc1).length ≤ 2 * l.length := by
    intro l
    induction l with
    | nil => simp
    | cons x r ih => rw [List.flatMap_cons, List.length_append, List.length_cons]; have := h1 x; omega
  have := h2 l
  unfold K.quo
  rw [List.length_cons, List.length_append, List.length_singleton]
  omega
theorem shown_len (p : K.T → Bool) (l : K.T) : (K.shown p l).length ≤ 2 * l.length + 2 := by
  have := quo_len l
  unfold K.shown
  split <;> omega
namespace K
/-- a list's texts from the i-th on, with what stands between them, and the end -/
def itemsS : Nat → List T → T
  | _, [] => [93]
  | i, s :: r => (if i = 0 then [] else [44, 32]) ++ (shown isWord s ++ itemsS (i + 1) r)
def listS (l : List T) : T := [32, 91] ++ itemsS 0 l
end K
theorem Tb.low {B : Nat} {w w' : World} (h : Tb w) (h4 : 4 < B) (hb : Below B w w') : Tb w' := by
  obtain ⟨⟨m, hm⟩, hl⟩ := h
  exact ⟨⟨m, (cell_block (hb.block 4 h4) 0).trans hm⟩, Nat.lt_of_lt_of_le hl hb.size⟩
theorem Kept.low {B : Nat} {w w' : World} (hb : Below B w w') : Kept (fun g => g < B) w w' := ⟨hb.size, fun g hg _ => hb.block g hg⟩
theorem Below.new {B : Nat} (w : World) (o : Obj) (h : B ≤ w.heap.size) : Below B w (w.alloc o) := ((Below.refl _ w).alloc (Nat.le_refl _) o).mono h
theorem IsW.new_row {B b : Nat} {l : K.T} {w : World} (h : IsW B b l w) (o : Obj) : IsW B b l (w.alloc o) := h.kept ((Below.refl _ w).alloc (Nat.le_refl _) o)
theorem get_1 {s : K.T} {i : Nat} {x : K.T} (h : [s][i]? = some x) : i = 0 ∧ x = s := by
  match i, h with
  | 0, h => exact ⟨rfl, (Option.some.inj h).symm⟩
/-- put of one text, with the row that it lies in -/
theorem put_1 (w : World) (B b : Nat) (acc s : K.T) (h : IsW B b acc w) (hs : s.length ≤ 1000000) (ha : acc.length ≤ 16384) (hB : B ≤ w.heap.size) :
    Calls Tryz.prog 41 #[.pointer (some ⟨b, 0, none⟩), .slice (some ⟨w.heap.size, 0, none⟩) 1 1] (w.alloc (.cells #[S s] 9)) (WP B b w (acc ++ s)) := by
  refine (put_any (w.alloc (.cells #[S s] 9)) B b w.heap.size acc [s] #[S s] (h.new_row _) (blk_new w _) (fun i x hx => ?_) (by simp) ha (by rw [World.size_alloc]; omega)).mono ?_
  · obtain ⟨rfl, rfl⟩ := get_1 hx
    exact ⟨rfl, hs⟩
  · rintro e w' ⟨h1, h2, h3⟩
    rw [List.flatten_singleton] at h3
    exact ⟨(Below.new w _ hB).trans h1, (OthW.of_below ((Below.refl _ w).alloc (Nat.le_refl _) _)).trans h2, h3⟩

set_option maxHeartbeats 8000000 in
theorem list_any (w : World) (B b : Nat) (acc : K.T) (q : Value) (l : List K.T) (h : IsW B b acc w) (hq : RepT (fun g => g < B) w q l) (ht : ∀ s ∈ l, s.length ≤ 100000) (ha : acc.length ≤ 16384) (hB : B ≤ w.heap.size) (h4 : 4 < B) (hT : Tb w) :
    Calls Tryz.prog 44 #[.pointer (some ⟨b, 0, none⟩), q] w (WP B b w (acc ++ K.listS l)) := by
  obtain ⟨ad, cap, rfl, hl⟩ := hq.form
  obtain ⟨n, hn⟩ : ∃ n, n = l.length := ⟨_, rfl⟩
  obtain ⟨T, hTT⟩ : ∃ T, acc ++ K.listS l = T := ⟨_, rfl⟩
  rw [hTT]
  rw [← hn] at hq hl ⊢
  have hp1 := put_1 w B b acc [32, 91] h (by decide) ha hB
  obtain ⟨a1, ha1⟩ : ∃ a, acc ++ [32, 91] = a := ⟨_, rfl⟩
  rw [K.listS, ← List.append_assoc, ha1] at hTT
  rw [ha1] at hp1
  have HQ := Lib.hid hq
  have HN := Lib.hid hn
  have HTT := Lib.hid hTT
  have HA := Lib.hid (And.intro ht (And.intro ha (And.intro hB (And.intro h4 hT))))
  have HP1 := Lib.hid hp1
  clear hq hn hTT ht ha hB h4 hT h hp1 ha1
  go_enter Tryz.func44, Tryz.ntmps44
  go_wp2_with fail
  refine (HP1.out).mono ?_
  rintro e w1 ⟨hb1, ho1, hwp⟩
  have HB1 := Lib.hid hb1
  have HO1 := Lib.hid ho1
  clear hb1 ho1 HP1
  by_cases hl1 : a1.length ≤ 16384
  · rw [if_pos hl1] at hwp
    obtain ⟨rfl, hw1⟩ := hwp
    have HW1 := Lib.hid (And.intro hw1 hl1)
    clear hw1 hl1
    go_wp2
    go_loopw [11] (fun i wr => ∃ k : Nat, i = .int .i64 (k : Int) ∧ k ≤ n ∧ ∃ a, IsW B b a wr ∧ a.length ≤ 16384 ∧ a ++ K.itemsS k (l.drop k) = T ∧ Below B w wr ∧ OthW w wr) (fun i _ => n - (intOf i).toNat)
    case atStart => exact ⟨0, rfl, Nat.zero_le _, a1, HW1.out.1, HW1.out.2, HTT.out, HB1.out, HO1.out⟩
    case round =>
      obtain ⟨k, rfl, hk, a, hia, hla, hea, hbel, hoth⟩ := hrel
      have HBV := Lib.hid hbel
      have HOV := Lib.hid hoth
      have HIV := Lib.hid hia
      have HLV := Lib.hid hla
      have HSV := Lib.hid (Nat.le_trans HA.out.2.2.1 hbel.size)
      by_cases hlt : k < n
      · obtain ⟨y, hy⟩ := get_at (l := l) (k := k) (by rw [← HN.out]; exact hlt)
        obtain ⟨g', o', rfl, hg', c0, _⟩ := (HQ.out.keep (Kept.low hbel) (fun _ h _ => h)).at hy
        have HY1 := Lib.hid (HA.out.1 y (List.mem_of_getElem? hy))
        rw [drop_get hy, K.itemsS] at hea
        clear hbel hoth hia hla hy
        by_cases h0 : k = 0
        · rw [if_pos h0, List.nil_append] at hea
          have HEV := Lib.hid hea
          have hgt : ¬ (0 : Int) < (k : Int) := by omega
          have hkn : (k : Int) < (n : Int) := by omega
          clear hea h0
          have hsh := shown_any wr y 81 K.isWord (by have := HY1.out; omega) (fun args W => by kernel_rfl) (word_any y (by have := HY1.out; omega) wr (HA.out.2.2.2.2.low HA.out.2.2.2.1 HBV.out))
          have hsl := shown_len K.isWord y
          obtain ⟨z, hz⟩ : ∃ z, K.shown K.isWord y = z := ⟨_, rfl⟩
          rw [hz] at hsh hsl
          have HEV' : a ++ (z ++ K.itemsS (k + 1) (l.drop (k + 1))) = T := by rw [← hz]; exact HEV.out
          have HEV2 := Lib.hid HEV'
          have HZ := Lib.hid (show z.length ≤ 1000000 by have := HY1.out; omega)
          clear HEV HEV' hz hsl
          go_wp2_with fail
          refine hsh.mono ?_
          rintro e w2 ⟨rfl, hb2⟩
          have HBV2 := Lib.hid (HBV.out.trans (hb2.mono HSV.out))
          have HOV2 := Lib.hid (HOV.out.trans (OthW.of_below hb2))
          have HIV2 := Lib.hid (HIV.out.kept hb2)
          clear hb2
          go_wp2_with fail
          refine (put_1 w2 B b a z HIV2.out HZ.out HLV.out (Nat.le_trans HA.out.2.2.1 HBV2.out.size)).mono ?_
          rintro e w3 ⟨hb3, ho3, hwp⟩
          have HB3 := Lib.hid (HBV2.out.trans hb3)
          have HO3 := Lib.hid (HOV2.out.trans ho3)
          have HE3 := Lib.hid (show a ++ z ++ K.itemsS (k + 1) (l.drop (k + 1)) = T by rw [List.append_assoc]; exact HEV2.out)
          clear hb3 ho3
          by_cases hl3 : (a ++ z).length ≤ 16384
          · rw [if_pos hl3] at hwp
            obtain ⟨rfl, hw3⟩ := hwp
            have HW3 := Lib.hid (And.intro hw3 hl3)
            clear hw3 hl3
            go_wp2
            go_roundw
            case rel => exact ⟨k + 1, by go_num, by omega, a ++ z, HW3.out.1, HW3.out.2, HE3.out, HB3.out, HO3.out⟩
            case measure => simp [intOf]; omega
          · rw [if_neg hl3] at hwp
            obtain rfl := hwp
            have HW3 := Lib.hid hl3
            clear hl3
            go_wp2
            exact ⟨rfl, HB3.out, HO3.out, by rw [if_neg (by have := congrArg List.length HE3.out; have := HW3.out; simp only [List.length_append] at *; omega)]⟩
        · rw [if_neg h0, ← List.append_assoc] at hea
          have HEV0 := Lib.hid hea
          have hgt : (0 : Int) < (k : Int) := by omega
          have hkn : (k : Int) < (n : Int) := by omega
          have hp2 := put_1 wr B b a [44, 32] HIV.out (by decide) HLV.out HSV.out
          obtain ⟨a2, ha2⟩ : ∃ x, a ++ [44, 32] = x := ⟨_, rfl⟩
          have HP2 := Lib.hid hp2
          clear hp2 hea h0
          go_wp2_with fail
          refine (HP2.out).mono ?_
          rintro e wv ⟨hb1, ho1, hwp⟩
          have HBV1 := Lib.hid (HBV.out.trans hb1)
          have HOV1 := Lib.hid (HOV.out.trans ho1)
          clear hb1 ho1 HBV HOV
          have HBV := HBV1
          have HOV := HOV1
          clear HBV1 HOV1 HP2 HIV HLV HSV
          rw [ha2] at hwp HEV0
          by_cases hl1 : a2.length ≤ 16384
          · rw [if_pos hl1] at hwp
            obtain ⟨rfl, hw1⟩ := hwp
            have HIV := Lib.hid hw1
            have HLV := Lib.hid hl1
            have HEV := Lib.hid HEV0.out
            have HSV := Lib.hid (Nat.le_trans HA.out.2.2.1 HBV.out.size)
            clear hw1 hl1 ha2 HEV0
            have hsh := shown_any wv y 81 K.isWord (by have := HY1.out; omega) (fun args W => by kernel_rfl) (word_any y (by have := HY1.out; omega) wv (HA.out.2.2.2.2.low HA.out.2.2.2.1 HBV.out))
            have hsl := shown_len K.isWord y
            obtain ⟨z, hz⟩ : ∃ z, K.shown K.isWord y = z := ⟨_, rfl⟩
            rw [hz] at hsh hsl
            have HEV' : a2 ++ (z ++ K.itemsS (k + 1) (l.drop (k + 1))) = T := by rw [← hz]; exact HEV.out
            have HEV2 := Lib.hid HEV'
            have HZ := Lib.hid (show z.length ≤ 1000000 by have := HY1.out; omega)
            clear HEV HEV' hz hsl
            go_wp2_with fail
            refine hsh.mono ?_
            rintro e w2 ⟨rfl, hb2⟩
            have HBV2 := Lib.hid (HBV.out.trans (hb2.mono HSV.out))
            have HOV2 := Lib.hid (HOV.out.trans (OthW.of_below hb2))
            have HIV2 := Lib.hid (HIV.out.kept hb2)
            clear hb2
            go_wp2_with fail
            refine (put_1 w2 B b a2 z HIV2.out HZ.out HLV.out (Nat.le_trans HA.out.2.2.1 HBV2.out.size)).mono ?_
            rintro e w3 ⟨hb3, ho3, hwp⟩
            have HB3 := Lib.hid (HBV2.out.trans hb3)
            have HO3 := Lib.hid (HOV2.out.trans ho3)
            have HE3 := Lib.hid (show a2 ++ z ++ K.itemsS (k + 1) (l.drop (k + 1)) = T by rw [List.append_assoc]; exact HEV2.out)
            clear hb3 ho3
            by_cases hl3 : (a2 ++ z).length ≤ 16384
            · rw [if_pos hl3] at hwp
              obtain ⟨rfl, hw3⟩ := hwp
              have HW3 := Lib.hid (And.intro hw3 hl3)
              clear hw3 hl3
              go_wp2
              go_roundw
              case rel => exact ⟨k + 1, by go_num, by omega, a2 ++ z, HW3.out.1, HW3.out.2, HE3.out, HB3.out, HO3.out⟩
              case measure => simp [intOf]; omega
            · rw [if_neg hl3] at hwp
              obtain rfl := hwp
              have HW3 := Lib.hid hl3
              clear hl3
              go_wp2
              exact ⟨rfl, HB3.out, HO3.out, by rw [if_neg (by have := congrArg List.length HE3.out; have := HW3.out; simp only [List.length_append] at *; omega)]⟩
          · rw [if_neg hl1] at hwp
            obtain rfl := hwp
            have HL1 := Lib.hid hl1
            clear hl1
            go_wp2
            exact ⟨rfl, HBV.out, HOV.out, by rw [if_neg (by have := congrArg List.length HEV0.out; have := HL1.out; simp only [List.length_append] at *; omega)]⟩
      · have hkn : k = n := by omega
        have hd : l.drop k = [] := List.drop_of_length_le (by rw [← HN.out]; omega)
        rw [hd, K.itemsS] at hea
        have HEA := Lib.hid hea
        have hp2 := put_1 wr B b a [93] HIV.out (by decide) HLV.out HSV.out
        rw [hea] at hp2
        have HP2 := Lib.hid hp2
        clear hp2 hea hd hbel hoth hia hla
        go_wp2_with fail
        refine (HP2.out).mono ?_
        rintro e w2 ⟨hb2, ho2, hwp⟩
        have HB2 := Lib.hid (HBV.out.trans hb2)
        have HO2 := Lib.hid (HOV.out.trans ho2)
        clear hb2 ho2
        by_cases hl1 : T.length ≤ 16384
        · rw [if_pos hl1] at hwp
          obtain ⟨rfl, hw1⟩ := hwp
          have HW1 := Lib.hid (And.intro hw1 hl1)
          clear hw1 hl1
          go_wp2
          go_end0
          exact ⟨HB2.out, HO2.out, by rw [if_pos HW1.out.2]; exact ⟨rfl, HW1.out.1⟩⟩
        · rw [if_neg hl1] at hwp
          obtain rfl := hwp
          have HL1 := Lib.hid hl1
          clear hl1
          go_wp2
          exact ⟨rfl, HB2.out, HO2.out, by rw [if_neg HL1.out]⟩
  · rw [if_neg hl1] at hwp
    obtain rfl := hwp
    have HL1 := Lib.hid hl1
    clear hl1
    go_wp2
    exact ⟨rfl, HB1.out, HO1.out, by rw [if_neg (by have := congrArg List.length HTT.out; have := HL1.out; simp only [List.length_append] at *; omega)]⟩
end Go.Proofs.YtegobomfhdfodaaGreatDoor
