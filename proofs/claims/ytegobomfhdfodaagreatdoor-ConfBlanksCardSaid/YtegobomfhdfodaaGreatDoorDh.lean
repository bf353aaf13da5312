/- CONF: THE WALK OVER keys. -/
import Derived.Test.YtegobomfhdfodaaGreatDoorDg
namespace Go.Proofs.YtegobomfhdfodaaGreatDoor
open Go.RowKit
set_option maxRecDepth 100000
set_option linter.unusedVariables false
set_option linter.unusedSimpArgs false

namespace K
/-- what stands behind a key's colon, on its line -/
def valS (x : Nd) : T := if x.k = 1 then [32] ++ shown isPlain x.s else if x.k = 2 then listS x.l else []
/-- the lines of keys -/
def keysS : Nat → T → List (T × Nd) → T
  | 0, _, _ => []
  | f + 1, ind, l => l.flatMap fun y => (ind ++ (y.1 ++ [58])) ++ (valS y.2 ++ ([10] ++ keysS f (ind ++ [32, 32]) y.2.p))
theorem keysF_all (ok : Nd → Bool) : ∀ (l seen : List (T × Nd)), keysF ok seen l = true → ∀ y ∈ l, isKey y.1 = true ∧ ok y.2 = true
  | [], _, _, y, hy => by cases hy
  | z :: r, seen, h, y, hy => by
    rw [keysF] at h
    simp only [Bool.and_eq_true] at h
    rcases List.mem_cons.1 hy with e | hy
    · subst e; exact ⟨h.1.1.1, h.1.2⟩
    · exact keysF_all ok r _ h.2 y hy
theorem key_len {s : T} (h : isKey s = true) : s.length ≤ 64 := by
  unfold isKey at h
  simp only [Bool.and_eq_true, decide_eq_true_eq] at h
  exact h.1.2
theorem text_len {s : T} (h : isText s = true) : s.length ≤ 4096 := by
  unfold isText at h
  simp only [Bool.and_eq_true, Bool.not_eq_true', decide_eq_false_iff_not] at h
  omega
theorem node_true {f a : Nat} {x : Nd} (h : nodeF (f + 1) a x = true) : (∀ z ∈ x.p, z.1.length ≤ 64 ∧ nodeF f (a + 1) z.2 = true) ∧ (x.k = 0 ∨ (x.k = 1 ∧ x.s.length ≤ 4096) ∨ (x.k = 2 ∧ ∀ s ∈ x.l, s.length ≤ 4096)) := by
  rw [nodeF_eq] at h
  by_cases h0 : x.k = 0
  · rw [if_pos h0] at h
    simp only [Bool.and_eq_true] at h
    exact ⟨fun z hz => ⟨key_len (keysF_all _ _ _ h.2.2 z hz).1, (keysF_all _ _ _ h.2.2 z hz).2⟩, .inl h0⟩
  · rw [if_neg h0] at h
    by_cases h1 : x.k = 1
    · rw [if_pos h1] at h
      simp only [Bool.and_eq_true, decide_eq_true_eq] at h
      have hp : x.p = [] := List.eq_nil_of_length_eq_zero (by omega)
      exact ⟨(by rw [hp]; intro z hz; cases hz), .inr (.inl ⟨h1, text_len h.1⟩)⟩
    · rw [if_neg h1] at h
      by_cases h2 : x.k = 2
      · rw [if_pos h2] at h
        simp only [Bool.and_eq_true, List.isEmpty_iff] at h
        refine ⟨(by rw [h.2]; intro z hz; cases hz), .inr (.inr ⟨h2, fun s hs => ?_⟩)⟩
        have ht := h.1.2
        unfold textsOk at ht
        simp only [Bool.and_eq_true, Bool.not_eq_true', List.any_eq_false] at ht
        have := ht.2 s hs
        exact text_len (by simpa using this)
      · rw [if_neg h2] at h
        cases h
end K
/-- put of a row of texts -/
theorem put_row (w : World) (B b : Nat) (acc : K.T) (l : List K.T) (cs : Array Value) (h : IsW B b acc w) (hc : ∀ (i : Nat) (s : K.T), l[i]? = some s → cs[i]? = some (S s) ∧ s.length ≤ 1000000) (hn : l.length ≤ 10) (ha : acc.length ≤ 16384) (hB : B ≤ w.heap.size) :
    Calls Tryz.prog 41 #[.pointer (some ⟨b, 0, none⟩), .slice (some ⟨w.heap.size, 0, none⟩) l.length l.length] (w.alloc (.cells cs 9)) (WP B b w (acc ++ l.flatten)) := by
  refine (put_any (w.alloc (.cells cs 9)) B b w.heap.size acc l cs (h.new_row _) (blk_new w _) hc hn ha (by rw [World.size_alloc]; omega)).mono ?_
  rintro e w' ⟨h1, h2, h3⟩
  exact ⟨(Below.new w _ hB).trans h1, (OthW.of_below ((Below.refl _ w).alloc (Nat.le_refl _) _)).trans h2, h3⟩
theorem put_3 (w : World) (B b : Nat) (acc s t u : K.T) (h : IsW B b acc w) (hs : s.length ≤ 1000000) (ht : t.length ≤ 1000000) (hu : u.length ≤ 1000000) (ha : acc.length ≤ 16384) (hB : B ≤ w.heap.size) :
    Calls Tryz.prog 41 #[.pointer (some ⟨b, 0, none⟩), .slice (some ⟨w.heap.size, 0, none⟩) 3 3] (w.alloc (.cells #[S s, S t, S u] 9)) (WP B b w (acc ++ (s ++ (t ++ u)))) := by
  have := put_row w B b acc [s, t, u] #[S s, S t, S u] h (fun i x hx => by
    match i, hx with
    | 0, hx => exact ⟨by cases hx; rfl, by cases hx; exact hs⟩
    | 1, hx => exact ⟨by cases hx; rfl, by cases hx; exact ht⟩
    | 2, hx => exact ⟨by cases hx; rfl, by cases hx; exact hu⟩) (by simp) ha hB
  simp only [List.flatten_cons, List.flatten_nil, List.append_nil] at this
  exact this
theorem put_2 (w : World) (B b : Nat) (acc s t : K.T) (h : IsW B b acc w) (hs : s.length ≤ 1000000) (ht : t.length ≤ 1000000) (ha : acc.length ≤ 16384) (hB : B ≤ w.heap.size) :
    Calls Tryz.prog 41 #[.pointer (some ⟨b, 0, none⟩), .slice (some ⟨w.heap.size, 0, none⟩) 2 2] (w.alloc (.cells #[S s, S t] 9)) (WP B b w (acc ++ (s ++ t))) := by
  have := put_row w B b acc [s, t] #[S s, S t] h (fun i x hx => by
    match i, hx with
    | 0, hx => exact ⟨by cases hx; rfl, by cases hx; exact hs⟩
    | 1, hx => exact ⟨by cases hx; rfl, by cases hx; exact ht⟩) (by simp) ha hB
  simp only [List.flatten_cons, List.flatten_nil, List.append_nil] at this
  exact this
theorem S_cat' (a : K.T) : Value.string ({ data := a.toArray } ++ { data := #[32, 32] }) = S (a ++ [32, 32]) := by
  refine congrArg Value.string (ByteArray.ext ?_)
  rw [ByteArray.data_append, ← List.append_toArray]
theorem five {w : World} {g : Nat} {a b c d e : Value} {t : TypeId} (h : w.heap[g]? = some (.cells #[a, b, c, d, e] t (0, 0))) : w.cell? ⟨g, 0, none⟩ = some a ∧ w.cell? ⟨g, 1, none⟩ = some b ∧ w.cell? ⟨g, 2, none⟩ = some c ∧ w.cell? ⟨g, 3, none⟩ = some d ∧ w.cell? ⟨g, 4, none⟩ = some e :=
  ⟨cell_of_row w g 0 _ t (0, 0) h, cell_of_row w g 1 _ t (0, 0) h, cell_of_row w g 2 _ t (0, 0) h, cell_of_row w g 3 _ t (0, 0) h, cell_of_row w g 4 _ t (0, 0) h⟩
theorem RepK.low {B : Nat} {w wr : World} {ad : Option Addr} {m cap : Nat} {l : List (K.T × Nd)} (h : RepK (fun g => g < B) w (.slice ad m cap) l) (hb : Below B w wr) {i : Nat} {y : K.T × Nd} (hi : l[i]? = some y) :
    ∃ g o c d, ad = some ⟨g, o, none⟩ ∧ g < wr.heap.size ∧ At5 wr g (o + i * 5) y.1 y.2 c d ∧ y.1.length ≤ 140737488353000 ∧ Rep (fun g => g < B) w c d y.2 := by
  obtain ⟨g, o, c, d, ⟨ad', cap', h1, _, h3⟩, h⟩ := h
  injection h1 with e1 e2 e3
  obtain ⟨e, hg, hs⟩ := h3 (Nat.lt_of_le_of_lt (Nat.zero_le i) (lt_of_get hi))
  exact ⟨g, o, c i, d i, e1.trans e, Nat.lt_of_lt_of_le hs hb.size, (h i y hi).1.keep (hb.block g hg), (h i y hi).2.1, (h i y hi).2.2⟩
/-- keys writes the lines of nodes that are right to the depth f -/
def KeysW (B b f : Nat) : Prop := ∀ (w : World) (acc ind : K.T) (q : Value) (l : List (K.T × Nd)) (a : Nat), IsW B b acc w → RepK (fun g => g < B) w q l → (∀ y ∈ l, y.1.length ≤ 64 ∧ K.nodeF f a y.2 = true) → ind.length + 2 * f ≤ 1000 → acc.length ≤ 16384 → B ≤ w.heap.size → 4 < B → Tb w →
    Calls Tryz.prog 27 #[.pointer (some ⟨b, 0, none⟩), q, S ind] w (WP B b w (acc ++ K.keysS (f + 1) ind l))
set_option maxHeartbeats 8000000 in
theorem keys_step (B b f : Nat) (ih : ∀ f', f = f' + 1 → KeysW B b f') : KeysW B b f := by
  intro w acc ind q l a0 h hq hok hin ha hB h4 hT
  obtain ⟨ad, cap, rfl, hl⟩ := hq.form
  obtain ⟨n, hn⟩ : ∃ n, n = l.length := ⟨_, rfl⟩
  have hroom := hq.room
  rw [← hn] at hq hl hroom ⊢
  obtain ⟨hroom1, hroom2⟩ := hroom
  obtain ⟨T, hTT⟩ : ∃ T, acc ++ K.keysS (f + 1) ind l = T := ⟨_, rfl⟩
  obtain ⟨G, hG⟩ : ∃ G : K.T × Nd → K.T, (fun y => (ind ++ (y.1 ++ [58])) ++ (K.valS y.2 ++ ([10] ++ K.keysS f (ind ++ [32, 32]) y.2.p))) = G := ⟨_, rfl⟩
  rw [hTT]
  rw [K.keysS, hG] at hTT
  have HQ := Lib.hid hq
  have HN := Lib.hid hn
  have HTT := Lib.hid hTT
  have HG := Lib.hid hG
  have HOK := Lib.hid hok
  have HIH0 := Lib.hid ih
  have H := Lib.hid (And.intro h ha)
  have HA := Lib.hid (And.intro hB (And.intro h4 (And.intro hT hin)))
  clear hq hn hTT hG hok ih h ha hB h4 hT hin
  go_enter Tryz.func27, Tryz.ntmps27
  go_wp2
  go_loopw [10] (fun i wr => ∃ k : Nat, i = .int .i64 (k : Int) ∧ k ≤ n ∧ ∃ a, IsW B b a wr ∧ a.length ≤ 16384 ∧ a ++ (l.drop k).flatMap G = T ∧ Below B w wr ∧ OthW w wr) (fun i _ => n - (intOf i).toNat)
  case atStart => exact ⟨0, rfl, Nat.zero_le _, acc, H.out.1, H.out.2, HTT.out, Below.refl _ _, .of_below (Below.refl _ _)⟩
  case round =>
    obtain ⟨k, rfl, hk, acck, hia, hla, hea, hbel, hoth⟩ := hrel
    by_cases hlt : k < n
    · obtain ⟨y, hy⟩ := get_at (l := l) (k := k) (by rw [← HN.out]; exact hlt)
      obtain ⟨g, o, q1, q2, rfl, hg, hat, hkl, hrep⟩ := HQ.out.low hbel hy
      have hyk := HOK.out y (List.mem_of_getElem? hy)
      rw [drop_get hy, List.flatMap_cons] at hea
      obtain ⟨f', rfl⟩ : ∃ f', f = f' + 1 := by
        cases f with
        | zero => have := hyk.2; rw [K.nodeF] at this; cases this
        | succ f => exact ⟨f, rfl⟩
      obtain ⟨f, rfl⟩ : ∃ f'', f'' = f' := ⟨_, rfl⟩
      obtain ⟨hpp, hkind⟩ := K.node_true hyk.2
      obtain ⟨fit, hrt, hrk⟩ := hrep.parts
      obtain ⟨key, nd⟩ := y
      obtain ⟨kk, s, lt, p⟩ := nd
      have hgy : G (key, Nd.mk kk s lt p) = (ind ++ (key ++ [58])) ++ (K.valS (Nd.mk kk s lt p) ++ ([10] ++ K.keysS (f + 1) (ind ++ [32, 32]) p)) := by rw [← HG.out]; rfl
      rw [hgy] at hea
      simp only at hat hkl hyk hpp hkind hrt hrk
      obtain ⟨c0, c1, c2, c3, c4⟩ := hat
      simp only [Nd.k, Nd.s, Nd.l, Nd.p] at c0 c1 c2 c3 c4 hpp hkind hrt hrk
      obtain ⟨ad1, cap1, rfl, hl1⟩ := hrt.form
      obtain ⟨ad2, cap2, rfl, hl2⟩ := hrk.form
      obtain ⟨K0, hK0⟩ : ∃ z : Int, (kk : Int) = z := ⟨_, rfl⟩
      rw [hK0] at c1
      have hkn : (k : Int) < (n : Int) := by omega
      have hk0 : (0 : Int) ≤ (k : Int) := by omega
      have hkc : (k : Int) ≤ (cap : Int) := by omega
      have hBw := Nat.le_trans HA.out.1 hbel.size
      have hind : ind.length + 2 ≤ 9223372036854775807 := by have := HA.out.2.2.2; omega
      have HIH := Lib.hid (HIH0.out f rfl)
      have HPP := Lib.hid hpp
      obtain ⟨W, hW⟩ : ∃ W, W = wr.alloc (.cells #[S key, .int .u8 K0, S s, .slice ad1 lt.length cap1, .slice ad2 p.length cap2] 44) := ⟨_, rfl⟩
      have hBW : Below wr.heap.size wr W := by rw [hW]; exact (Below.refl _ _).alloc (Nat.le_refl _) _
      have HXV := Lib.hid (show W.heap[wr.heap.size]? = some (.cells #[S key, .int .u8 K0, S s, .slice ad1 lt.length cap1, .slice ad2 p.length cap2] 44 (0, 0)) by rw [hW]; exact blk_new wr _)
      have HBV := Lib.hid (hbel.trans (hBW.mono hBw))
      have HOV := Lib.hid (hoth.trans (OthW.of_below hBW))
      have HIV := Lib.hid (hia.kept hBW)
      have HLV := Lib.hid hla
      have HRT := Lib.hid hrt
      have HRK := Lib.hid hrk
      have hpk := put_3 W B b acck ind key [58] HIV.out (by have := HA.out.2.2.2; omega) (by omega) (by decide) HLV.out (Nat.le_trans HA.out.1 HBV.out.size)
      obtain ⟨a1, ha1⟩ : ∃ x, acck ++ (ind ++ (key ++ [58])) = x := ⟨_, rfl⟩
      have hea2 : a1 ++ (K.valS (Nd.mk kk s lt p) ++ ([10] ++ (K.keysS (f + 1) (ind ++ [32, 32]) p ++ (l.drop (k + 1)).flatMap G))) = T := by
        rw [← hea, ← ha1]
        simp only [List.append_assoc]
      rw [ha1] at hpk
      have HPK := Lib.hid hpk
      have HWW := Lib.hid hW
      obtain ⟨z0, z1, z2, z3, z4⟩ := five HXV.out
      have hd0 : decide (k < n) = true := decide_eq_true hlt
      rcases hkind with h0 | ⟨h1, hs1⟩ | ⟨h2, hs1⟩
      · subst h0
        obtain rfl : K0 = 0 := by rw [← hK0]; rfl
        have HEV0 : a1 ++ ([10] ++ (K.keysS (f + 1) (ind ++ [32, 32]) p ++ (l.drop (k + 1)).flatMap G)) = T := hea2
        clear hpk hea hea2 ha1 hW hBW hrt hrk hrep hia hla hbel hoth hyk hpp fit hgy hy HOK HIH0 H HG HTT hd0
        go_upto_region 3 with (fail)
        rw [← HWW.out]
        go_wp2_with fail
        refine (HPK.out).mono ?_
        clear HPK z0 z1 z2 z3 z4 c0 c1 c2 c3 c4

        rintro e V1 ⟨hb1, ho1, hwp⟩
        have HBV1 := Lib.hid (HBV.out.trans hb1)
        have HOV1 := Lib.hid (HOV.out.trans ho1)
        have HXV1 := Lib.hid (ho1.2 _ _ _ _ HXV.out (by decide) (by decide))
        clear hb1 ho1 HBV HOV HXV HIV HLV
        have HBV := HBV1
        have HOV := HOV1
        have HXV := HXV1
        clear HBV1 HOV1 HXV1
        by_cases hl1 : a1.length ≤ 16384
        · rw [if_pos hl1] at hwp
          obtain ⟨rfl, hw1⟩ := hwp
          have HIV := Lib.hid hw1
          have HLV := Lib.hid hl1
          clear hw1 hl1
          obtain ⟨x0, x1, x2, x3, x4⟩ := five HXV.out

          have hpn := put_1 V1 B b a1 [10] HIV.out (by decide) HLV.out (Nat.le_trans HA.out.1 HBV.out.size)
          obtain ⟨an, han⟩ : ∃ x, a1 ++ [10] = x := ⟨_, rfl⟩
          rw [← List.append_assoc, han] at HEV0
          rw [han] at hpn
          have HPN := Lib.hid hpn
          have HEV := Lib.hid HEV0
          clear hpn han HEV0
          go_wp2_with fail
          refine (HPN.out).mono ?_
          rintro e V8 ⟨hb1, ho1, hwp⟩
          have HBV1 := Lib.hid (HBV.out.trans hb1)
          have HOV1 := Lib.hid (HOV.out.trans ho1)
          have HXV1 := Lib.hid (ho1.2 _ _ _ _ HXV.out (by decide) (by decide))
          clear hb1 ho1 HBV HOV HXV HPN HIV HLV x0 x1 x2 x3 x4
          have HBV := HBV1
          have HOV := HOV1
          have HXV := HXV1
          clear HBV1 HOV1 HXV1
          by_cases hl1 : an.length ≤ 16384
          · rw [if_pos hl1] at hwp
            obtain ⟨rfl, hw1⟩ := hwp
            have HIV := Lib.hid hw1
            have HLV := Lib.hid hl1
            clear hw1 hl1
            have hrec := HIH.out V8 an (ind ++ [32, 32]) _ p (a0 + 1) HIV.out (HRK.out.keep (Kept.low HBV.out) (fun _ h _ => h)) HPP.out (by have := HA.out.2.2.2; simp only [List.length_append, List.length_cons, List.length_nil]; omega) HLV.out (Nat.le_trans HA.out.1 HBV.out.size) HA.out.2.1 (HA.out.2.2.1.low HA.out.2.1 HBV.out)
            obtain ⟨ar, har⟩ : ∃ x, an ++ K.keysS (f + 1) (ind ++ [32, 32]) p = x := ⟨_, rfl⟩
            have HE0 := HEV.out
            rw [← List.append_assoc, har] at HE0
            rw [har] at hrec
            have HREC := Lib.hid hrec
            have HE2 := Lib.hid HE0
            obtain ⟨x0, x1, x2, x3, x4⟩ := five HXV.out
            clear hrec har HE0 HEV
            go_wp2_with fail
            rw [S_cat' ind]
            refine (HREC.out).mono ?_
            rintro e V9 ⟨hb1, ho1, hwp⟩
            have HBV1 := Lib.hid (HBV.out.trans hb1)
            have HOV1 := Lib.hid (HOV.out.trans ho1)
            clear hb1 ho1 HBV HOV HREC HIV HLV
            have HBV := HBV1
            have HOV := HOV1
            clear HBV1 HOV1
            by_cases hl2 : ar.length ≤ 16384
            · rw [if_pos hl2] at hwp
              obtain ⟨rfl, hw1⟩ := hwp
              have HW3 := Lib.hid (And.intro hw1 hl2)
              clear hw1 hl2
              go_wp2
              go_roundw
              case rel => exact ⟨k + 1, by go_num, by omega, ar, HW3.out.1, HW3.out.2, HE2.out, HBV.out, HOV.out⟩
              case measure => simp [intOf]; omega
            · rw [if_neg hl2] at hwp
              obtain rfl := hwp
              have HLN := Lib.hid hl2
              clear hl2
              have HEV := HE2
              clear HE2
              go_wp2
              exact ⟨rfl, HBV.out, HOV.out, by rw [if_neg (by have := congrArg List.length HEV.out; have := HLN.out; simp only [List.length_append] at *; omega)]⟩
          · rw [if_neg hl1] at hwp
            obtain rfl := hwp
            have HLN := Lib.hid hl1
            clear hl1
            go_wp2
            exact ⟨rfl, HBV.out, HOV.out, by rw [if_neg (by have := congrArg List.length HEV.out; have := HLN.out; simp only [List.length_append] at *; omega)]⟩
        · rw [if_neg hl1] at hwp
          obtain rfl := hwp
          have HLN := Lib.hid hl1
          have HEV := Lib.hid HEV0
          clear hl1
          go_wp2
          exact ⟨rfl, HBV.out, HOV.out, by rw [if_neg (by have := congrArg List.length HEV.out; have := HLN.out; simp only [List.length_append] at *; omega)]⟩

      · subst h1
        obtain rfl : K0 = 1 := by rw [← hK0]; rfl
        have HEV0 : a1 ++ (([32] ++ K.shown K.isPlain s) ++ ([10] ++ (K.keysS (f + 1) (ind ++ [32, 32]) p ++ (l.drop (k + 1)).flatMap G))) = T := hea2
        have HS1 := Lib.hid hs1
        clear hpk hea hea2 ha1 hW hBW hrt hrk hrep hia hla hbel hoth hyk hpp fit hgy hy HOK HIH0 H HG HTT hd0 hs1
        go_upto_region 3 with (fail)
        rw [← HWW.out]
        go_wp2_with fail
        refine (HPK.out).mono ?_
        clear HPK z0 z1 z2 z3 z4 c0 c1 c2 c3 c4

        rintro e V1 ⟨hb1, ho1, hwp⟩
        have HBV1 := Lib.hid (HBV.out.trans hb1)
        have HOV1 := Lib.hid (HOV.out.trans ho1)
        have HXV1 := Lib.hid (ho1.2 _ _ _ _ HXV.out (by decide) (by decide))
        clear hb1 ho1 HBV HOV HXV HIV HLV
        have HBV := HBV1
        have HOV := HOV1
        have HXV := HXV1
        clear HBV1 HOV1 HXV1
        by_cases hl1 : a1.length ≤ 16384
        · rw [if_pos hl1] at hwp
          obtain ⟨rfl, hw1⟩ := hwp
          have HIV := Lib.hid hw1
          have HLV := Lib.hid hl1
          clear hw1 hl1
          have hsh := shown_any V1 s 43 K.isPlain (by have := HS1.out; omega) (fun args W => by kernel_rfl) (plain_any s (by have := HS1.out; omega) V1 (HA.out.2.2.1.low HA.out.2.1 HBV.out))
          have hsl := shown_len K.isPlain s
          obtain ⟨z, hz⟩ : ∃ z, K.shown K.isPlain s = z := ⟨_, rfl⟩
          rw [hz] at hsh hsl HEV0
          have HZ := Lib.hid (show z.length ≤ 1000000 by have := HS1.out; omega)
          clear hz hsl
          have HE9 := Lib.hid HEV0
          clear HEV0

          obtain ⟨x0, x1, x2, x3, x4⟩ := five HXV.out

          go_wp2_with fail
          refine hsh.mono ?_
          rintro e V2 ⟨rfl, hb2⟩
          have HBV2 := Lib.hid (HBV.out.trans (hb2.mono (Nat.le_trans HA.out.1 HBV.out.size)))
          have HOV2 := Lib.hid (HOV.out.trans (OthW.of_below hb2))
          have HIV2 := Lib.hid (HIV.out.kept hb2)
          have HXV2 := Lib.hid (blk_under HXV.out hb2)
          clear hb2 HBV HOV HIV HXV x0 x1 x2 x3 x4 hsh
          have HBV := HBV2
          have HOV := HOV2
          have HIV := HIV2
          have HXV := HXV2
          clear HBV2 HOV2 HIV2 HXV2
          have hpv := put_2 V2 B b a1 [32] z HIV.out (by decide) HZ.out HLV.out (Nat.le_trans HA.out.1 HBV.out.size)
          obtain ⟨a2, ha2⟩ : ∃ x, a1 ++ ([32] ++ z) = x := ⟨_, rfl⟩
          have HEV0 := HE9.out
          rw [← List.append_assoc, ha2] at HEV0
          rw [ha2] at hpv
          have HPV := Lib.hid hpv
          clear hpv ha2 HE9
          go_wp2_with fail
          refine (HPV.out).mono ?_
          clear HPV

          rintro e V3 ⟨hb1, ho1, hwp⟩
          have HBV1 := Lib.hid (HBV.out.trans hb1)
          have HOV1 := Lib.hid (HOV.out.trans ho1)
          have HXV1 := Lib.hid (ho1.2 _ _ _ _ HXV.out (by decide) (by decide))
          clear hb1 ho1 HBV HOV HXV HIV HLV
          have HBV := HBV1
          have HOV := HOV1
          have HXV := HXV1
          clear HBV1 HOV1 HXV1
          by_cases hl1 : a2.length ≤ 16384
          · rw [if_pos hl1] at hwp
            obtain ⟨rfl, hw1⟩ := hwp
            have HIV := Lib.hid hw1
            have HLV := Lib.hid hl1
            clear hw1 hl1
            have hpn := put_1 V3 B b a2 [10] HIV.out (by decide) HLV.out (Nat.le_trans HA.out.1 HBV.out.size)
            obtain ⟨an, han⟩ : ∃ x, a2 ++ [10] = x := ⟨_, rfl⟩
            rw [← List.append_assoc, han] at HEV0
            rw [han] at hpn
            have HPN := Lib.hid hpn
            have HEV := Lib.hid HEV0
            clear hpn han HEV0
            go_wp2_with fail
            refine (HPN.out).mono ?_
            rintro e V8 ⟨hb1, ho1, hwp⟩
            have HBV1 := Lib.hid (HBV.out.trans hb1)
            have HOV1 := Lib.hid (HOV.out.trans ho1)
            have HXV1 := Lib.hid (ho1.2 _ _ _ _ HXV.out (by decide) (by decide))
            clear hb1 ho1 HBV HOV HXV HPN HIV HLV
            have HBV := HBV1
            have HOV := HOV1
            have HXV := HXV1
            clear HBV1 HOV1 HXV1
            by_cases hl1 : an.length ≤ 16384
            · rw [if_pos hl1] at hwp
              obtain ⟨rfl, hw1⟩ := hwp
              have HIV := Lib.hid hw1
              have HLV := Lib.hid hl1
              clear hw1 hl1
              have hrec := HIH.out V8 an (ind ++ [32, 32]) _ p (a0 + 1) HIV.out (HRK.out.keep (Kept.low HBV.out) (fun _ h _ => h)) HPP.out (by have := HA.out.2.2.2; simp only [List.length_append, List.length_cons, List.length_nil]; omega) HLV.out (Nat.le_trans HA.out.1 HBV.out.size) HA.out.2.1 (HA.out.2.2.1.low HA.out.2.1 HBV.out)
              obtain ⟨ar, har⟩ : ∃ x, an ++ K.keysS (f + 1) (ind ++ [32, 32]) p = x := ⟨_, rfl⟩
              have HE0 := HEV.out
              rw [← List.append_assoc, har] at HE0
              rw [har] at hrec
              have HREC := Lib.hid hrec
              have HE2 := Lib.hid HE0
              obtain ⟨x0, x1, x2, x3, x4⟩ := five HXV.out
              clear hrec har HE0 HEV
              go_wp2_with fail
              rw [S_cat' ind]
              refine (HREC.out).mono ?_
              rintro e V9 ⟨hb1, ho1, hwp⟩
              have HBV1 := Lib.hid (HBV.out.trans hb1)
              have HOV1 := Lib.hid (HOV.out.trans ho1)
              clear hb1 ho1 HBV HOV HREC HIV HLV
              have HBV := HBV1
              have HOV := HOV1
              clear HBV1 HOV1
              by_cases hl2 : ar.length ≤ 16384
              · rw [if_pos hl2] at hwp
                obtain ⟨rfl, hw1⟩ := hwp
                have HW3 := Lib.hid (And.intro hw1 hl2)
                clear hw1 hl2
                go_wp2
                go_roundw
                case rel => exact ⟨k + 1, by go_num, by omega, ar, HW3.out.1, HW3.out.2, HE2.out, HBV.out, HOV.out⟩
                case measure => simp [intOf]; omega
              · rw [if_neg hl2] at hwp
                obtain rfl := hwp
                have HLN := Lib.hid hl2
                clear hl2
                have HEV := HE2
                clear HE2
                go_wp2
                exact ⟨rfl, HBV.out, HOV.out, by rw [if_neg (by have := congrArg List.length HEV.out; have := HLN.out; simp only [List.length_append] at *; omega)]⟩
            · rw [if_neg hl1] at hwp
              obtain rfl := hwp
              have HLN := Lib.hid hl1
              clear hl1
              go_wp2
              exact ⟨rfl, HBV.out, HOV.out, by rw [if_neg (by have := congrArg List.length HEV.out; have := HLN.out; simp only [List.length_append] at *; omega)]⟩
          · rw [if_neg hl1] at hwp
            obtain rfl := hwp
            have HLN := Lib.hid hl1
            have HEV := Lib.hid HEV0
            clear hl1
            go_wp2
            exact ⟨rfl, HBV.out, HOV.out, by rw [if_neg (by have := congrArg List.length HEV.out; have := HLN.out; simp only [List.length_append] at *; omega)]⟩
        · rw [if_neg hl1] at hwp
          obtain rfl := hwp
          have HLN := Lib.hid hl1
          have HEV := Lib.hid HEV0
          clear hl1
          go_wp2
          exact ⟨rfl, HBV.out, HOV.out, by rw [if_neg (by have := congrArg List.length HEV.out; have := HLN.out; simp only [List.length_append] at *; omega)]⟩

      · subst h2
        obtain rfl : K0 = 2 := by rw [← hK0]; rfl
        have HEV0 : a1 ++ (K.listS lt ++ ([10] ++ (K.keysS (f + 1) (ind ++ [32, 32]) p ++ (l.drop (k + 1)).flatMap G))) = T := hea2
        have HS1 := Lib.hid (show ∀ s ∈ lt, s.length ≤ 100000 from fun s hs => Nat.le_trans (hs1 s hs) (by decide))
        clear hpk hea hea2 ha1 hW hBW hrt hrk hrep hia hla hbel hoth hyk hpp fit hgy hy HOK HIH0 H HG HTT hd0 hs1
        go_upto_region 3 with (fail)
        rw [← HWW.out]
        go_wp2_with fail
        refine (HPK.out).mono ?_
        clear HPK z0 z1 z2 z3 z4 c0 c1 c2 c3 c4

        rintro e V1 ⟨hb1, ho1, hwp⟩
        have HBV1 := Lib.hid (HBV.out.trans hb1)
        have HOV1 := Lib.hid (HOV.out.trans ho1)
        have HXV1 := Lib.hid (ho1.2 _ _ _ _ HXV.out (by decide) (by decide))
        clear hb1 ho1 HBV HOV HXV HIV HLV
        have HBV := HBV1
        have HOV := HOV1
        have HXV := HXV1
        clear HBV1 HOV1 HXV1
        by_cases hl1 : a1.length ≤ 16384
        · rw [if_pos hl1] at hwp
          obtain ⟨rfl, hw1⟩ := hwp
          have HIV := Lib.hid hw1
          have HLV := Lib.hid hl1
          clear hw1 hl1
          have hpv := list_any V1 B b a1 _ lt HIV.out (HRT.out.keep (Kept.low HBV.out) (fun _ h _ => h)) HS1.out HLV.out (Nat.le_trans HA.out.1 HBV.out.size) HA.out.2.1 (HA.out.2.2.1.low HA.out.2.1 HBV.out)
          obtain ⟨a2, ha2⟩ : ∃ x, a1 ++ K.listS lt = x := ⟨_, rfl⟩
          rw [← List.append_assoc, ha2] at HEV0
          rw [ha2] at hpv
          have HPV := Lib.hid hpv
          clear hpv ha2

          obtain ⟨x0, x1, x2, x3, x4⟩ := five HXV.out

          go_wp2_with fail
          refine (HPV.out).mono ?_
          clear HPV x0 x1 x2 x3 x4

          rintro e V3 ⟨hb1, ho1, hwp⟩
          have HBV1 := Lib.hid (HBV.out.trans hb1)
          have HOV1 := Lib.hid (HOV.out.trans ho1)
          have HXV1 := Lib.hid (ho1.2 _ _ _ _ HXV.out (by decide) (by decide))
          clear hb1 ho1 HBV HOV HXV HIV HLV
          have HBV := HBV1
          have HOV := HOV1
          have HXV := HXV1
          clear HBV1 HOV1 HXV1
          by_cases hl1 : a2.length ≤ 16384
          · rw [if_pos hl1] at hwp
            obtain ⟨rfl, hw1⟩ := hwp
            have HIV := Lib.hid hw1
            have HLV := Lib.hid hl1
            clear hw1 hl1
            have hpn := put_1 V3 B b a2 [10] HIV.out (by decide) HLV.out (Nat.le_trans HA.out.1 HBV.out.size)
            obtain ⟨an, han⟩ : ∃ x, a2 ++ [10] = x := ⟨_, rfl⟩
            rw [← List.append_assoc, han] at HEV0
            rw [han] at hpn
            have HPN := Lib.hid hpn
            have HEV := Lib.hid HEV0
            clear hpn han HEV0
            go_wp2_with fail
            refine (HPN.out).mono ?_
            rintro e V8 ⟨hb1, ho1, hwp⟩
            have HBV1 := Lib.hid (HBV.out.trans hb1)
            have HOV1 := Lib.hid (HOV.out.trans ho1)
            have HXV1 := Lib.hid (ho1.2 _ _ _ _ HXV.out (by decide) (by decide))
            clear hb1 ho1 HBV HOV HXV HPN HIV HLV
            have HBV := HBV1
            have HOV := HOV1
            have HXV := HXV1
            clear HBV1 HOV1 HXV1
            by_cases hl1 : an.length ≤ 16384
            · rw [if_pos hl1] at hwp
              obtain ⟨rfl, hw1⟩ := hwp
              have HIV := Lib.hid hw1
              have HLV := Lib.hid hl1
              clear hw1 hl1
              have hrec := HIH.out V8 an (ind ++ [32, 32]) _ p (a0 + 1) HIV.out (HRK.out.keep (Kept.low HBV.out) (fun _ h _ => h)) HPP.out (by have := HA.out.2.2.2; simp only [List.length_append, List.length_cons, List.length_nil]; omega) HLV.out (Nat.le_trans HA.out.1 HBV.out.size) HA.out.2.1 (HA.out.2.2.1.low HA.out.2.1 HBV.out)
              obtain ⟨ar, har⟩ : ∃ x, an ++ K.keysS (f + 1) (ind ++ [32, 32]) p = x := ⟨_, rfl⟩
              have HE0 := HEV.out
              rw [← List.append_assoc, har] at HE0
              rw [har] at hrec
              have HREC := Lib.hid hrec
              have HE2 := Lib.hid HE0
              obtain ⟨x0, x1, x2, x3, x4⟩ := five HXV.out
              clear hrec har HE0 HEV
              go_wp2_with fail
              rw [S_cat' ind]
              refine (HREC.out).mono ?_
              rintro e V9 ⟨hb1, ho1, hwp⟩
              have HBV1 := Lib.hid (HBV.out.trans hb1)
              have HOV1 := Lib.hid (HOV.out.trans ho1)
              clear hb1 ho1 HBV HOV HREC HIV HLV
              have HBV := HBV1
              have HOV := HOV1
              clear HBV1 HOV1
              by_cases hl2 : ar.length ≤ 16384
              · rw [if_pos hl2] at hwp
                obtain ⟨rfl, hw1⟩ := hwp
                have HW3 := Lib.hid (And.intro hw1 hl2)
                clear hw1 hl2
                go_wp2
                go_roundw
                case rel => exact ⟨k + 1, by go_num, by omega, ar, HW3.out.1, HW3.out.2, HE2.out, HBV.out, HOV.out⟩
                case measure => simp [intOf]; omega
              · rw [if_neg hl2] at hwp
                obtain rfl := hwp
                have HLN := Lib.hid hl2
                clear hl2
                have HEV := HE2
                clear HE2
                go_wp2
                exact ⟨rfl, HBV.out, HOV.out, by rw [if_neg (by have := congrArg List.length HEV.out; have := HLN.out; simp only [List.length_append] at *; omega)]⟩
            · rw [if_neg hl1] at hwp
              obtain rfl := hwp
              have HLN := Lib.hid hl1
              clear hl1
              go_wp2
              exact ⟨rfl, HBV.out, HOV.out, by rw [if_neg (by have := congrArg List.length HEV.out; have := HLN.out; simp only [List.length_append] at *; omega)]⟩
          · rw [if_neg hl1] at hwp
            obtain rfl := hwp
            have HLN := Lib.hid hl1
            have HEV := Lib.hid HEV0
            clear hl1
            go_wp2
            exact ⟨rfl, HBV.out, HOV.out, by rw [if_neg (by have := congrArg List.length HEV.out; have := HLN.out; simp only [List.length_append] at *; omega)]⟩
        · rw [if_neg hl1] at hwp
          obtain rfl := hwp
          have HLN := Lib.hid hl1
          have HEV := Lib.hid HEV0
          clear hl1
          go_wp2
          exact ⟨rfl, HBV.out, HOV.out, by rw [if_neg (by have := congrArg List.length HEV.out; have := HLN.out; simp only [List.length_append] at *; omega)]⟩

    · have hkn : k = n := by omega
      have hd : l.drop k = [] := List.drop_of_length_le (by rw [← HN.out]; omega)
      rw [hd, List.flatMap_nil, List.append_nil] at hea
      subst hea
      have HI := Lib.hid (And.intro hia (And.intro hla (And.intro hbel hoth)))
      clear hia hla hbel hoth hd
      have hlt' : ¬ (k : Int) < (n : Int) := by omega
      go_wp2
      go_end0
      exact ⟨HI.out.2.2.1, HI.out.2.2.2, by rw [if_pos HI.out.2.1]; exact ⟨rfl, HI.out.1⟩⟩
end Go.Proofs.YtegobomfhdfodaaGreatDoor
