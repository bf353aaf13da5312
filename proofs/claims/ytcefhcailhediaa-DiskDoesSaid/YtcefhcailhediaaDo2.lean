/- THE WALKS OVER create, remove. -/
import Derived.Test.YtcefhcailhediaaPut2
namespace Go.Proofs.Ytcefhcailhediaa
open Go.RowKit
set_option linter.unusedVariables false
set_option linter.unusedSimpArgs false

theorem src_new (w : World) (f : F) : Src Try.prog 3 22 (.slice (some ⟨w.heap.size, 0, none⟩) 1 1) 1 (fc f) (w.alloc (.cells #[.string f.name, .string f.data, .int .i64 f.syn] 46)) := by
  refine Src.ofSlice _ Try.underlying22 _ 1 1 _ rfl (fun j u hu => ?_) (fun u hu => fc_one [f] u (by simpa using hu))
  rw [Addr.add_lit, Nat.zero_add, cell_of_row _ w.heap.size j _ 46 (0, 0) (blk_new w _), ← Array.getElem?_toList]
  exact hu
theorem Behind.from {base B : Nat} {w W : World} {g : Nat} {down : Bool} {fuse fault : Int} {out : List F} {w' : World} (h : Behind base W g down fuse fault out w') (hb : Below base w W) : Behind base w g down fuse fault out w' := by
  obtain ⟨ad2, n2, cap2, h1, h2, h3, h4⟩ := h
  exact ⟨ad2, n2, cap2, h1, h2, hb.trans h3, h4⟩
theorem found_here {fs : List F} {ad : Option Addr} {cap n : Nat} (hn : n = fs.length) (hc : ad = none → cap = 0) (hnc : n ≤ cap) (h : ad = none) : fs = [] := by
  have := hc h
  exact List.eq_nil_of_length_eq_zero (by omega)

section
variable (w : World) (g base gb n cap : Nat) (down : Bool) (fuse fault : Int) (fs : List F) (nm dt : ByteArray) (z : Int)
set_option maxHeartbeats 2000000 in
theorem create_some (k : Int) (h : On w g (some ⟨gb, 0, none⟩) n cap down fuse fault fs) (hgb : gb < w.heap.size) (hnc : n ≤ cap) (hne : gb ≠ g) (hgbb : base ≤ gb) (hbase : base ≤ w.heap.size) (hbg : base ≤ g) (hf : found fs nm = none) :
    Calls Try.prog 43 #[.pointer (some ⟨g, 0, none⟩), .agg (scells k nm dt z)] w fun e w' => e = .returned (.tuple #[]) ∧ Behind base w g down fuse fault (fs.take (pos fs nm) ++ ⟨nm, ⟨#[]⟩, 0⟩ :: fs.drop (pos fs nm)) w' := by
  have h64 : n ≤ 64 := by rw [h.n]; exact h.r.1
  have hp : pos fs nm ≤ n := by rw [h.n]; exact pos_le fs nm
  have HF := Lib.hid (find_any (w.alloc (.cells (scells k nm dt z) 27)) g 64 (some ⟨gb, 0, none⟩) cap n down fuse fault nm fs false (h.alloc _).d h.n (h.alloc _).f h.r (by rw [hf]; rfl))
  obtain ⟨P, hP⟩ : ∃ P, pos fs nm = P := ⟨_, rfl⟩
  rw [hP] at HF hp ⊢
  have H := Lib.hid h
  have HXX := Lib.hid (blk_new w (.cells (scells k nm dt z) 27))
  clear h hf hP
  have hput : ∀ W, Below w.heap.size w W → Calls Try.prog 54 #[.pointer (some ⟨g, 0, none⟩), .int .i64 (P : Int), .int .i64 (P : Int), .slice (some ⟨W.heap.size, 0, none⟩) 1 1] (W.alloc (.cells #[.string nm, .string ⟨#[]⟩, .int .i64 0] 46)) fun e w' => e = .returned (.tuple #[]) ∧ Behind base w g down fuse fault (fs.take P ++ ⟨nm, ⟨#[]⟩, 0⟩ :: fs.drop P) w' := by
    intro W hW
    have hW2 := hW.alloc (o := .cells #[.string nm, .string ⟨#[]⟩, .int .i64 0] 46) hW.size
    have hO := H.out.keep hW2
    obtain ⟨v1, w1, ad2, n2, cap2, w2, ht⟩ := two_ins (W.alloc (.cells #[.string nm, .string ⟨#[]⟩, .int .i64 0] 46)).drew gb n cap P P fs ⟨nm, ⟨#[]⟩, 0⟩ _ hO.n hp hp hnc (by omega) (hO.f.keep (Below.refl _ _).drew) (by
      have := src_new W ⟨nm, ⟨#[]⟩, 0⟩
      exact ⟨this.kind, this.len, this.cellsD, (by have := src_new W.drew ⟨nm, ⟨#[]⟩, 0⟩; exact (src_new W.drew.drew ⟨nm, ⟨#[]⟩, 0⟩).cells), this.newsLen, this.one⟩)
    exact (put_some _ g gb n cap P P down fuse fault _ v1 _ w1 w2 ad2 n2 cap2 base _ rfl hO.d hp hp hnc (by omega) ht hne hgbb (Nat.le_trans hbase hW2.size) hbg).mono fun e w' ⟨h1, h2⟩ => ⟨h1, h2.from (B := 0) (hW2.mono hbase)⟩
  have Hput := Lib.hid hput
  clear hput
  go_enter Try.func43, Try.ntmps43
  go_wp2_with fail
  refine (HF.out).mono ?_
  rintro e w1 ⟨rfl, hb⟩
  obtain ⟨x0, x1, x2, x3⟩ := box4 ((hb.block w.heap.size (by simp)).trans HXX.out)
  have HW := Lib.hid (((Below.refl w.heap.size w).alloc (Nat.le_refl _) (.cells (scells k nm dt z) 27)).trans (hb.mono (by simp)))
  clear hb
  go_wp2_with fail
  refine (Hput.out _ HW.out).mono ?_
  rintro e w2 ⟨rfl, hB⟩
  have HB := Lib.hid hB; clear hB
  go_wp2
  go_end0
  exact ⟨rfl, HB.out⟩
set_option maxHeartbeats 2000000 in
theorem create_none (k : Int) (h : On w g none 0 0 down fuse fault fs) (hbase : base ≤ w.heap.size) (hbg : base ≤ g) (hf : found fs nm = none) :
    Calls Try.prog 43 #[.pointer (some ⟨g, 0, none⟩), .agg (scells k nm dt z)] w fun e w' => e = .returned (.tuple #[]) ∧ Behind base w g down fuse fault (fs.take (pos fs nm) ++ ⟨nm, ⟨#[]⟩, 0⟩ :: fs.drop (pos fs nm)) w' := by
  have hnil : fs = [] := List.eq_nil_of_length_eq_zero h.n.symm
  subst hnil
  have HF := Lib.hid (find_any (w.alloc (.cells (scells k nm dt z) 27)) g 64 none 0 0 down fuse fault nm [] false (h.alloc _).d h.n (h.alloc _).f h.r (by rw [hf]; rfl))
  have hP : pos [] nm = 0 := rfl
  rw [hP] at HF ⊢
  have H := Lib.hid h
  have HXX := Lib.hid (blk_new w (.cells (scells k nm dt z) 27))
  clear h hf hP
  have hput : ∀ W, Below w.heap.size w W → Calls Try.prog 54 #[.pointer (some ⟨g, 0, none⟩), .int .i64 0, .int .i64 0, .slice (some ⟨W.heap.size, 0, none⟩) 1 1] (W.alloc (.cells #[.string nm, .string ⟨#[]⟩, .int .i64 0] 46)) fun e w' => e = .returned (.tuple #[]) ∧ Behind base w g down fuse fault ([].take 0 ++ ⟨nm, ⟨#[]⟩, 0⟩ :: [].drop 0) w' := by
    intro W hW
    have hW2 := hW.alloc (o := .cells #[.string nm, .string ⟨#[]⟩, .int .i64 0] 46) hW.size
    have hO := H.out.keep hW2
    obtain ⟨v1, w1, ad2, n2, cap2, w2, ht⟩ := two_nil (W.alloc (.cells #[.string nm, .string ⟨#[]⟩, .int .i64 0] 46)).drew ⟨nm, ⟨#[]⟩, 0⟩ _ (by
      have := src_new W ⟨nm, ⟨#[]⟩, 0⟩
      exact ⟨this.kind, this.len, this.cellsD, (by exact (src_new W.drew.drew ⟨nm, ⟨#[]⟩, 0⟩).cells), this.newsLen, this.one⟩)
    exact (put_none _ g down fuse fault _ v1 _ w1 w2 ad2 n2 cap2 base _ rfl hO.d ht (Nat.le_trans hbase hW2.size) hbg).mono fun e w' ⟨h1, h2⟩ => ⟨h1, h2.from (B := 0) (hW2.mono hbase)⟩
  have Hput := Lib.hid hput
  clear hput
  go_enter Try.func43, Try.ntmps43
  go_wp2_with fail
  refine (HF.out).mono ?_
  rintro e w1 ⟨rfl, hb⟩
  obtain ⟨x0, x1, x2, x3⟩ := box4 ((hb.block w.heap.size (by simp)).trans HXX.out)
  have HW := Lib.hid (((Below.refl w.heap.size w).alloc (Nat.le_refl _) (.cells (scells k nm dt z) 27)).trans (hb.mono (by simp)))
  clear hb
  go_wp2_with fail
  refine (Hput.out _ HW.out).mono ?_
  rintro e w2 ⟨rfl, hB⟩
  have HB := Lib.hid hB; clear hB
  go_wp2
  go_end0
  exact ⟨rfl, HB.out⟩

set_option maxHeartbeats 2000000 in
theorem remove_any (k : Int) (f : F) (h : On w g (some ⟨gb, 0, none⟩) n cap down fuse fault fs) (hgb : gb < w.heap.size) (hnc : n ≤ cap) (hne : gb ≠ g) (hgbb : base ≤ gb) (hbase : base ≤ w.heap.size) (hbg : base ≤ g) (hf : found fs nm = some f) :
    Calls Try.prog 50 #[.pointer (some ⟨g, 0, none⟩), .agg (scells k nm dt z)] w fun e w' => e = .returned (.tuple #[]) ∧ Behind base w g down fuse fault (fs.take (pos fs nm) ++ fs.drop (pos fs nm + 1)) w' := by
  have h64 : n ≤ 64 := by rw [h.n]; exact h.r.1
  have hp : pos fs nm < n := by rw [h.n]; exact (List.getElem?_eq_some_iff.1 (found_some hf).1).1
  have HF := Lib.hid (find_any (w.alloc (.cells (scells k nm dt z) 27)) g 64 (some ⟨gb, 0, none⟩) cap n down fuse fault nm fs true (h.alloc _).d h.n (h.alloc _).f h.r (by rw [hf]; rfl))
  obtain ⟨P, hP⟩ : ∃ P, pos fs nm = P := ⟨_, rfl⟩
  rw [hP] at HF hp ⊢
  have H := Lib.hid h
  have HXX := Lib.hid (blk_new w (.cells (scells k nm dt z) 27))
  clear h hf hP
  have hput : ∀ W, Below w.heap.size w W → Calls Try.prog 54 #[.pointer (some ⟨g, 0, none⟩), .int .i64 (P : Int), .int .i64 ((P : Int) + 1), .slice none 0 0] W fun e w' => e = .returned (.tuple #[]) ∧ Behind base w g down fuse fault (fs.take P ++ fs.drop (P + 1)) w' := by
    intro W hW
    have hO := H.out.keep hW
    obtain ⟨v1, w1, ad2, n2, cap2, w2, ht⟩ := two_del W.drew gb n cap P (P + 1) fs hO.n (by omega) (by omega) hnc (by omega) (Nat.lt_of_lt_of_le hgb hW.size) (hO.f.keep (Below.refl _ _).drew)
    have := (put_some W g gb n cap P (P + 1) down fuse fault _ v1 _ w1 w2 ad2 n2 cap2 base _ rfl hO.d (by omega) (by omega) hnc (by omega) ht hne hgbb (Nat.le_trans hbase hW.size) hbg).mono fun e w' ⟨h1, h2⟩ => (⟨h1, h2.from (B := 0) (hW.mono hbase)⟩ : e = Ending.returned (.tuple #[]) ∧ Behind base w g down fuse fault (fs.take P ++ fs.drop (P + 1)) w')
    rwa [show ((P + 1 : Nat) : Int) = (P : Int) + 1 by omega] at this
  have Hput := Lib.hid hput
  clear hput
  have hpp : (P : Int) + 1 ≤ 9223372036854775807 := by omega
  have hpp0 : (0 : Int) ≤ (P : Int) := by omega
  go_enter Try.func50, Try.ntmps50
  go_wp2_with fail
  refine (HF.out).mono ?_
  rintro e w1 ⟨rfl, hb⟩
  obtain ⟨x0, x1, x2, x3⟩ := box4 ((hb.block w.heap.size (by simp)).trans HXX.out)
  have HW := Lib.hid (((Below.refl w.heap.size w).alloc (Nat.le_refl _) (.cells (scells k nm dt z) 27)).trans (hb.mono (by simp)))
  clear hb
  go_wp2_with fail
  refine (Hput.out _ HW.out).mono ?_
  rintro e w2 ⟨rfl, hB⟩
  have HB := Lib.hid hB; clear hB
  go_wp2
  go_end0
  exact ⟨rfl, HB.out⟩
end
end Go.Proofs.Ytcefhcailhediaa
