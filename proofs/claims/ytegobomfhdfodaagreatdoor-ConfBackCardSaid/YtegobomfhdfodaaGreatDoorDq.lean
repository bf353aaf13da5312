/- CONF: THE WALK OVER Get. -/
import Derived.Test.YtegobomfhdfodaaGreatDoorDp
namespace Go.Proofs.YtegobomfhdfodaaGreatDoor
open Go.RowKit
set_option maxRecDepth 100000
set_option linter.unusedVariables false
set_option linter.unusedSimpArgs false

namespace K
/-- what the keys lead to -/
def get : Nd → List T → Option Nd
  | x, [] => some x
  | x, k :: r => if x.k = 0 then (match find x.p k with
    | some i => (match x.p[i]? with
      | some y => get y.2 r
      | none => none)
    | none => none) else none
theorem find_at {l : List (T × Nd)} {key : T} {i : Nat} (h : find l key = some i) : ∃ y, l[i]? = some y := by
  unfold find at h
  obtain ⟨hl, _⟩ := List.findIdx?_eq_some_iff_getElem.1 h
  exact ⟨_, List.getElem?_eq_getElem hl⟩
end K
/-- what Get answers, from w on -/
def GetR (w : World) (o : Option Nd) (e : Ending) (w' : World) : Prop :=
  Below w.heap.size w w' ∧ match o with
    | some y => ∃ r1 r2, e = .returned (.tuple #[.agg (nv y r1 r2), .bool true]) ∧ Rep (fun g => w.heap.size ≤ g) w' r1 r2 y ∧ FreeS w.heap.size w' r1 ∧ FreeS w.heap.size w' r2
    | none => e = .returned (.tuple #[.agg #[.int .u8 0, S [], .slice none 0 0, .slice none 0 0], .bool false])
abbrev zero4 : Array Value := #[.int .u8 0, .string ⟨#[]⟩, .slice none 0 0, .slice none 0 0]
set_option maxHeartbeats 8000000 in
theorem get_any {B B' : Nat → Prop} (w : World) (q1 q2 qp : Value) (x : Nd) (path : List K.T) (hr : Rep B w q1 q2 x) (hp : RepT B' w qp path) (hc : ∀ y, K.get x path = some y → CloneC y) :
    Calls Tryz.prog 19 #[.agg (nv x q1 q2), qp] w (GetR w (K.get x path)) := by
  obtain ⟨adp, capp, rfl, hlp⟩ := hp.form
  obtain ⟨n, hn⟩ : ∃ n, n = path.length := ⟨_, rfl⟩
  rw [← hn] at hp hlp ⊢
  obtain ⟨W, hW⟩ : ∃ W, W = (w.alloc (.cells #[.int .u8 (x.k : Int), S x.s, q1, q2] 32)).alloc (.cells zero4 32) := ⟨_, rfl⟩
  have hB : Below w.heap.size w W := by rw [hW]; exact ((Below.refl _ w).alloc (Nat.le_refl _) _).alloc (by simp) _
  have hb0 : W.heap[w.heap.size]? = some (.cells #[.int .u8 (x.k : Int), S x.s, q1, q2] 32 (0, 0)) := by rw [hW]; exact blk_under (blk_new w _) ((Below.refl _ _).alloc (Nat.le_refl _) _)
  have hb1 : W.heap[w.heap.size + 1]? = some (.cells zero4 32 (0, 0)) := by rw [hW]; have := blk_new (w.alloc (.cells #[.int .u8 (x.k : Int), S x.s, q1, q2] 32)) (.cells zero4 32); simpa using this
  have hrW : Rep (fun g => g < w.heap.size) W q1 q2 x := (hr.mono (B' := fun g => g < w.heap.size) fun _ _ h => h).keep (Kept.low hB) fun _ h _ => h
  have hpW : RepT (fun g => g < w.heap.size) w (.slice adp n capp) path := hp.mono fun _ _ h => h
  obtain ⟨O, hO⟩ : ∃ O, K.get x path = O := ⟨_, rfl⟩
  rw [hO] at hc ⊢
  have hlt1 := blk_lt hb1
  have HW := Lib.hid hW
  have H0 := Lib.hid (And.intro hB (And.intro hb0 (And.intro hb1 hrW)))
  have HP := Lib.hid hpW
  have HO := Lib.hid hO
  have HC := Lib.hid hc
  have HN := Lib.hid hn
  clear hW hB hb0 hb1 hrW hpW hO hc hn hp hr
  go_enter Tryz.func19, Tryz.ntmps19
  go_upto_region 1 with (fail)
  rw [← HW.out]
  go_wp2
  go_loopw [7, 8, 11] (fun _ _ i wr => ∃ (k : Nat) (z : Nd) (z1 z2 : Value), i = .int .i64 (k : Int) ∧ k ≤ n ∧ Below w.heap.size w wr ∧ wr.heap[w.heap.size]? = some (.cells #[.int .u8 (z.k : Int), S z.s, z1, z2] 32 (0, 0)) ∧ wr.heap[w.heap.size + 1]? = some (.cells zero4 32 (0, 0)) ∧ Rep (fun g => g < w.heap.size) wr z1 z2 z ∧ K.get z (path.drop k) = O) (fun _ _ i _ => n - (intOf i).toNat)
  case atStart => exact ⟨0, x, q1, q2, rfl, Nat.zero_le _, H0.out.1, H0.out.2.1, H0.out.2.2.1, H0.out.2.2.2, HO.out⟩
  case round =>
    obtain ⟨k, z, z1, z2, rfl, hk, hbel, hx0, hx1, hrep, hget⟩ := hrel
    obtain ⟨fit, hrt, hrk⟩ := hrep.parts
    obtain ⟨ad1, cap1, rfl, hl1⟩ := hrt.form
    obtain ⟨ad2, cap2, rfl, hl2⟩ := hrk.form
    have hroom := hrk.room
    obtain ⟨c0, c1, c2, c3⟩ := four hx0
    obtain ⟨f0, f1, f2, f3⟩ := free4 hx0
    have hl0 := blk_lt hx0
    have hl1' := blk_lt hx1
    have hsz := hbel.size
    have HB := Lib.hid hbel
    have HX := Lib.hid (And.intro hx0 hx1)
    have HR := Lib.hid hrep
    by_cases hlt : k < n
    · obtain ⟨y, hy⟩ := get_at (l := path) (k := k) (by rw [← HN.out]; exact hlt)
      obtain ⟨gp, op, rfl, hgp, cp, _⟩ := (HP.out.keep (Kept.low hbel) (fun _ h _ => h)).at hy
      have hfd := find_any wr (.slice ad2 z.p.length cap2) z.p y hrk
      have hkn : (k : Int) < (n : Int) := by omega
      rw [drop_get hy, K.get] at hget
      obtain ⟨kk, hkk⟩ : ∃ q : Int, (z.k : Int) = q := ⟨_, rfl⟩
      have HG := Lib.hid hget
      have HKK := Lib.hid hkk
      rw [hkk] at c0
      obtain ⟨fd, hff⟩ : ∃ fd, K.find z.p y = fd := ⟨_, rfl⟩
      rw [hff] at hfd
      obtain ⟨ati, hati⟩ : ∃ z, atI fd = z := ⟨_, rfl⟩
      rw [hati] at hfd
      have HFD := Lib.hid hfd
      have HAT := Lib.hid hati
      have HFF := Lib.hid hff
      clear hfd hff hget hbel hx0 hx1 hrep hkk hy hati
      go_wp2_with fail
      refine (HFD.out).mono ?_
      rintro e w2 ⟨rfl, hb2⟩
      have hb20 := blk_under HX.out.1 hb2
      have hb21 := blk_under HX.out.2 hb2
      rw [HKK.out] at hb20
      obtain ⟨y0, y1, y2, y3⟩ := four hb20
      obtain ⟨v0, v1', v2', v3'⟩ := four hb21
      obtain ⟨g0, g1, g2, g3⟩ := free4 hb20
      obtain ⟨h0, h1, h2, h3⟩ := free4 hb21
      have hq0 := blk_lt hb20
      have hq1 := blk_lt hb21
      have HB2 := Lib.hid (HB.out.trans (hb2.mono hsz))
      have HX2 := Lib.hid (And.intro hb20 hb21)
      have HR2 := Lib.hid (HR.out.under hb2)
      clear hb20 hb21 c0 c1 c2 c3 f0 f1 f2 f3
      by_cases hk0 : z.k = 0
      · obtain rfl : kk = 0 := by rw [← HKK.out, hk0]; rfl
        cases fd with
        | none =>
          have hO : O = none := by have := HG.out; rw [if_pos hk0, HFF.out] at this; exact this.symm
          have HOO := Lib.hid hO
          clear hO hk0
          obtain rfl : ati = -1 := HAT.out.symm
          go_wp2
          obtain ⟨G, hG⟩ : ∃ G, G = (((w2.setCell ⟨w.heap.size + 1, 0, none⟩ (.int .u8 0)).setCell ⟨w.heap.size + 1, 1, none⟩ (.string ⟨#[]⟩)).setCell ⟨w.heap.size + 1, 2, none⟩ (.slice none 0 0)).setCell ⟨w.heap.size + 1, 3, none⟩ (.slice none 0 0) := ⟨_, rfl⟩
          rw [← hG]
          obtain ⟨b1, go, gs, gb⟩ := put4 HX2.out.2 _ _ _ _ hG
          obtain ⟨r0, r1, r2, r3⟩ := four b1
          refine bodyPost_ret (v := .tuple #[.agg zero4, .bool false]) (by simp [results, Tryz.results19, go_sem, r0, r1, r2, r3]) rfl ?_
          exact ⟨HB2.out.trans (gb.mono (by omega)), by rw [HOO.out]⟩
        | some i =>
          obtain ⟨nx, hnx⟩ := K.find_at HFF.out
          have hO : K.get nx.2 (path.drop (k + 1)) = O := by have := HG.out; rw [if_pos hk0, HFF.out] at this; simp only [hnx] at this; exact this
          have HOO := Lib.hid hO
          obtain ⟨gk, ok, c, d, rfl, hgk, ⟨a0, a1, a2, a3, a4⟩, _, hrn⟩ := (HR2.out.parts.2.2).at hnx
          obtain ⟨ad3, cap3, rfl, _⟩ := hrn.parts.2.1.form
          obtain ⟨ad4, cap4, rfl, _⟩ := hrn.parts.2.2.form
          have hip : i < z.p.length := lt_of_get hnx
          have hi0 : (0 : Int) ≤ (i : Int) := by omega
          have hi1 : ¬ (i : Int) < 0 := by omega
          have hi2 : (i : Int) < (z.p.length : Int) := by omega
          have hi3 : (i : Int) ≤ (cap2 : Int) := by omega
          have HNX := Lib.hid hrn
          obtain rfl : ati = (i : Int) := HAT.out.symm
          clear hO hk0 hnx hrn
          go_wp2
          obtain ⟨G, hG⟩ : ∃ G, G = (((w2.setCell ⟨w.heap.size, 0, none⟩ (.int .u8 (nx.2.k : Int))).setCell ⟨w.heap.size, 1, none⟩ (S nx.2.s)).setCell ⟨w.heap.size, 2, none⟩ (.slice ad3 nx.2.l.length cap3)).setCell ⟨w.heap.size, 3, none⟩ (.slice ad4 nx.2.p.length cap4) := ⟨_, rfl⟩
          rw [← hG]
          obtain ⟨b1, go, gs, gb⟩ := put4 HX2.out.1 _ _ _ _ hG
          have HGG := Lib.hid (And.intro b1 (And.intro go (And.intro gs gb)))
          clear hG b1 go gs gb
          go_roundw
          case rel => exact ⟨k + 1, nx.2, _, _, by go_num, by omega, HB2.out.trans HGG.out.2.2.2, HGG.out.1, (HGG.out.2.1 _ (by omega)).trans HX2.out.2, HNX.out.keep (w' := G) ⟨by have := HGG.out.2.2.1; omega, fun g hg _ => HGG.out.2.1 g (by have : g < w.heap.size := hg; omega)⟩ (fun _ h _ => h), HOO.out⟩
          case measure => simp [intOf]; omega
      · have hne : (kk == 0) = false := by have := HKK.out; simp; omega
        have hne2 : (kk != 0) = true := by have := HKK.out; simp; omega
        have hO : O = none := by have := HG.out; rw [if_neg hk0] at this; exact this.symm
        have HOO := Lib.hid hO
        clear hO hk0
        go_wp2
        obtain ⟨G, hG⟩ : ∃ G, G = (((w2.setCell ⟨w.heap.size + 1, 0, none⟩ (.int .u8 0)).setCell ⟨w.heap.size + 1, 1, none⟩ (.string ⟨#[]⟩)).setCell ⟨w.heap.size + 1, 2, none⟩ (.slice none 0 0)).setCell ⟨w.heap.size + 1, 3, none⟩ (.slice none 0 0) := ⟨_, rfl⟩
        rw [← hG]
        obtain ⟨b1, go, gs, gb⟩ := put4 HX2.out.2 _ _ _ _ hG
        obtain ⟨r0, r1, r2, r3⟩ := four b1
        refine bodyPost_ret (v := .tuple #[.agg zero4, .bool false]) (by simp [results, Tryz.results19, go_sem, r0, r1, r2, r3]) rfl ?_
        exact ⟨HB2.out.trans (gb.mono (by omega)), by rw [HOO.out]⟩
    · have hkn : ¬ (k : Int) < (n : Int) := by omega
      have hd : path.drop k = [] := List.drop_of_length_le (by rw [← HN.out]; omega)
      rw [hd, K.get] at hget
      subst hget
      have hcl := HC.out z rfl _ wr _ _ hrep
      have HCL := Lib.hid hcl
      clear hcl hd hbel hx0 hx1 hrep
      go_wp2_with fail
      refine (HCL.out).mono ?_
      rintro e w2 ⟨hb2, r1, r2, rfl, hrr, hf1, hf2⟩
      obtain ⟨ad3, cap3, rfl, _⟩ := hrr.parts.2.1.form
      obtain ⟨ad4, cap4, rfl, _⟩ := hrr.parts.2.2.form
      have hb21 := blk_under HX.out.2 hb2
      obtain ⟨h0, h1, h2, h3⟩ := free4 hb21
      obtain ⟨v0, v1', v2', v3'⟩ := four hb21
      have hq1 := blk_lt hb21
      have HB2 := Lib.hid (HB.out.trans (hb2.mono hsz))
      have HRR := Lib.hid hrr
      have HFF := Lib.hid (And.intro hf1 hf2)
      have HX2 := Lib.hid hb21
      clear hb21 hb2 hrr hf1 hf2 c0 c1 c2 c3
      go_wp2
      obtain ⟨G, hG⟩ : ∃ G, G = (((w2.setCell ⟨w.heap.size + 1, 0, none⟩ (.int .u8 (z.k : Int))).setCell ⟨w.heap.size + 1, 1, none⟩ (S z.s)).setCell ⟨w.heap.size + 1, 2, none⟩ (.slice ad3 z.l.length cap3)).setCell ⟨w.heap.size + 1, 3, none⟩ (.slice ad4 z.p.length cap4) := ⟨_, rfl⟩
      rw [← hG]
      obtain ⟨b1, go, gs, gb⟩ := put4 HX2.out _ _ _ _ hG
      obtain ⟨r0, r1, r2, r3⟩ := four b1
      refine bodyPost_ret (v := .tuple #[.agg (nv z (.slice ad3 z.l.length cap3) (.slice ad4 z.p.length cap4)), .bool true]) (by simp [results, Tryz.results19, go_sem, r0, r1, r2, r3]) rfl ?_
      refine ⟨HB2.out.trans (gb.mono (by omega)), _, _, rfl, ?_, HFF.out.1.keep hsz fun g hg _ => go g (by omega), HFF.out.2.keep hsz fun g hg _ => go g (by omega)⟩
      exact HRR.out.keep (w' := G) ⟨by omega, fun g hg _ => go g (by have : wr.heap.size ≤ g := hg; omega)⟩ fun g h _ => Nat.le_trans hsz h
end Go.Proofs.YtegobomfhdfodaaGreatDoor
