/- TOP: WIRE's NUMBERS AT THIS SEAT (from wip/value's Wr), and begins. -/
import Derived.Test.YtkhmdofeonlnpaaGreatDoorGau
import Derived.WalkKit
import Derived.Maps.AppendAt
import Derived.Lib.Hide
import Derived.Laws.IdiomStrings
import Derived.Test.YtkhmdofeonlnpaaGreatDoorChecked
import Derived.WalkSpells
import Derived.WalkLawsBesides
import Derived.Test.YtkhmdofeonlnpaaGreatDoorProg
import Derived.BigQuiet
import Derived.Deep.QuietTactic
namespace Go.Proofs.YtkhmdofeonlnpaaGreatDoor.Wn.M
/-- a byte of a number -/
def by8 (n : Nat) : UInt8 := UInt8.ofNat n
theorem by8_toNat (n : Nat) (h : n < 256) : (by8 n).toNat = n := by
  unfold by8
  rw [UInt8.toNat_ofNat']
  exact Nat.mod_eq_of_lt h

/-- the shortest varint -/
def vnum (n : Nat) : List UInt8 :=
  if n < 128 then [by8 n] else by8 (n % 128 + 128) :: vnum (n / 128)
termination_by n
decreasing_by omega

theorem vnum_lt {n : Nat} (h : n < 128) : vnum n = [by8 n] := by rw [vnum, if_pos h]
theorem vnum_ge {n : Nat} (h : ¬ n < 128) : vnum n = by8 (n % 128 + 128) :: vnum (n / 128) := by rw [vnum, if_neg h]

theorem vnum_pos (n : Nat) : 0 < (vnum n).length := by
  by_cases h : n < 128
  · rw [vnum_lt h]; simp
  · rw [vnum_ge h]; simp

theorem vnum_len_le (k : Nat) : ∀ n, n < 128 ^ (k + 1) → (vnum n).length ≤ k + 1 := by
  induction k with
  | zero => intro n h; rw [vnum_lt (by simpa using h)]; simp
  | succ k ih =>
    intro n h
    by_cases h1 : n < 128
    · rw [vnum_lt h1]; simp
    · rw [vnum_ge h1]
      have := ih (n / 128) (by rw [Nat.pow_succ] at h; omega)
      simp only [List.length_cons]; omega

theorem vnum_len10 (n : Nat) (h : n < 18446744073709551616) : (vnum n).length ≤ 10 :=
  vnum_len_le 9 n (Nat.lt_of_lt_of_le h (by decide))

end Go.Proofs.YtkhmdofeonlnpaaGreatDoor.Wn.M
namespace Go.Proofs.YtkhmdofeonlnpaaGreatDoor.Wn
open Go.RowKit

theorem grownBy_step {a b c : World} {r s : Option Nat} (h : a.grownBy b r) (k : b.grownBy c s) (hs : s = r ∨ s = none ∨ ∃ n, s = some n ∧ a.heap.size ≤ n) : a.grownBy c r :=
  ⟨k.os.trans h.os, k.tape.trans h.tape, k.output.trans h.output, Nat.le_trans h.size k.size, fun i hi hne =>
    (k.block i (Nat.lt_of_lt_of_le hi h.size) (fun e => by
      rcases hs with hs | hs | ⟨n, hs, hn⟩
      · exact hne (e.trans hs)
      · rw [hs] at e; cases e
      · rw [hs] at e; injection e with e; omega)).trans (h.block i hi hne)⟩

/-- from world w0 with the slice v0 of the call's own to world w with the slice v: only v0's row, and what is new, has turned -/
structure Grew (w0 : World) (v0 : Value) (w : World) (v : Value) : Prop where
  g : w0.grownBy w v0.ownBlock
  o : v.ownBlock = v0.ownBlock ∨ ∃ b, v.ownBlock = some b ∧ w0.heap.size ≤ b

theorem Grew.refl (w : World) (v : Value) : Grew w v w v := ⟨World.grownBy.refl w _, .inl rfl⟩
theorem Grew.trans {w0 w1 w2 : World} {v0 v1 v2 : Value} (h : Grew w0 v0 w1 v1) (k : Grew w1 v1 w2 v2) : Grew w0 v0 w2 v2 := by
  refine ⟨grownBy_step h.g k.g ?_, ?_⟩
  · rcases h.o with e | ⟨b, e, hb⟩
    · exact .inl e
    · exact .inr (.inr ⟨b, e, hb⟩)
  · rcases k.o with e | ⟨b, e, hb⟩
    · rw [e]; exact h.o
    · exact .inr ⟨b, e, Nat.le_trans h.g.size hb⟩
theorem Grew.step {w0 w w' : World} {v0 v v' : Value} (h : Grew w0 v0 w v) (k : w.grownBy w' v.ownBlock) (o : v'.ownBlock = v.ownBlock ∨ v'.ownBlock = some w.heap.size) : Grew w0 v0 w' v' :=
  h.trans ⟨k, by rcases o with o | o; exact .inl o; exact .inr ⟨_, o, Nat.le_refl _⟩⟩
theorem Grew.alloc {w0 w : World} {v0 v : Value} (h : Grew w0 v0 w v) (o : Obj) : Grew w0 v0 (w.alloc o) v := h.trans ⟨World.grownBy_alloc w o _, .inl rfl⟩
theorem Grew.drew {w0 w : World} {v0 v : Value} (h : Grew w0 v0 w v) : Grew w0 v0 w.drew v := ⟨⟨h.g.os, h.g.tape, h.g.output, h.g.size, h.g.block⟩, h.o⟩
theorem Grew.below {B : Nat} {w0 w : World} {v0 v : Value} (h : Grew w0 v0 w v) (hB : B ≤ w0.heap.size) (hr : ∀ k, v0.ownBlock = some k → B ≤ k) : Below B w0 w :=
  (Below.refl _ _).grown h.g hB hr

/-- a byte as a value -/
abbrev B (b : UInt8) : Value := .int .u8 (b.toNat : Int)
theorem B_one (l : List UInt8) : ∀ u ∈ l.map B, u.oneCell' = true := by
  intro u hu
  obtain ⟨b, _, rfl⟩ := List.mem_map.1 hu
  rfl
theorem one_cells {w : World} {t : TypeId} {x : Value} : ∀ (j : Nat) (u : Value), [x][j]? = some u → (w.alloc (.cells #[x] t)).cell? ((⟨w.heap.size, 0, none⟩ : Addr).add j) = some u := by
  intro j u hj
  match j, hj with
  | 0, hj => simp at hj; subst hj; simp [Addr.add]
theorem by8_int (n : Nat) (h : n < 256) : B (M.by8 n) = .int .u8 (n : Int) := by rw [B, M.by8_toNat n h]
theorem B_of {k : Int} {n : Nat} (h : n < 256) (e : (n : Int) = k) : Value.int .u8 k = B (M.by8 n) := by rw [by8_int n h, e]

/-- the slice v of the call's own (blocks from 'base' on) has the bytes xs; E: the element type's number -/
def Bytes (E : TypeId) (w : World) (base : Nat) (v : Value) (xs : List UInt8) : Prop := w.ownsRow base E 1 v xs.length (xs.map B)
section
variable {E : TypeId} {w w' : World} {base : Nat} {v : Value} {xs : List UInt8}
theorem Bytes.nil (w : World) (base : Nat) : Bytes E w base (.slice none 0 0) [] := World.ownsRow_nil _ _ _ _
theorem Bytes.alloc (h : Bytes E w base v xs) (o : Obj) : Bytes E (w.alloc o) base v xs := World.ownsRow.alloc h o
theorem Bytes.kept {row : Option Nat} (h : Bytes E w base v xs) (hg : w.grownBy w' row) (hne : v.ownBlock = none ∨ v.ownBlock ≠ row) : Bytes E w' base v xs := World.ownsRow.kept h hg hne
theorem Bytes.drew (h : Bytes E w base v xs) : Bytes E w.drew base v xs := h
theorem Bytes.form (h : Bytes E w base v xs) : ∃ ad cap, v = .slice ad xs.length cap := by
  rcases h.2 with ⟨hv, hn⟩ | ⟨g, cap, cur, hv, _⟩
  · exact ⟨none, 0, by rw [hv, hn]⟩
  · exact ⟨_, cap, hv⟩
end

/-- append of one byte -/
theorem wp_app_byte {P : Program} {E T : TypeId} {w : World} {ops : Array Oper} {rest : List Oper} {o : Oper} {a : Act} {Q : Exit → Act → World → Prop}
    (hE : (P.info? E).map (fun i => (i.zero, i.size, i.bytes)) = some (some (.int .u8 0), 1, 1)) (hT : P.underlying T = some (.slice E)) (hgd : o.guard = none) (s x : Operand)
    (ho : o.op = .call { callee := .builtin .append, args := #[s, x], argTypes := #[T, T] }) (base : Nat) (v : Value) (xs : List UInt8) (hs : a.eval s = v) (hown : Bytes E w base v xs)
    (c : UInt8) (z : Value) (hz : z = B c) (hx : a.eval x = .slice (some ⟨w.heap.size, 0, none⟩) 1 1) (hlen : xs.length ≤ 140737488355000) (hbase : base ≤ w.heap.size)
    (h : ∀ v' w', Bytes E w' base v' (xs ++ [c]) → Grew w v w' v' → wpList P ops Q rest (a.put o.dst v') w') : wpList P ops Q (o :: rest) a (w.alloc (.cells #[z] E)) := by
  obtain ⟨i0, hi, hz0, hz1, hz2⟩ := info_parts hE
  subst hz
  refine wpList_append_own_at _ hgd s x T ho base E i0 (.int .u8 0) 1 1 hT hi hz0 hz1 hz2 rfl (by decide) v xs.length (xs.map B) hs (World.ownsRow.alloc hown _) ⟨w.heap.size, 0, none⟩ 1 1 [B c] hx rfl one_cells
    (by intro u hu; simp at hu; subst hu; rfl) (by unfold maxLen; omega) (by omega) (by simp; omega) ?_
  intro v' w' h1 h2 _ h4
  refine h v' w' ?_ (((Grew.refl w v).alloc _).step h2 h4)
  unfold Bytes
  rw [List.length_append, List.map_append]
  exact h1

/-- the string of a slice of bytes -/
theorem Bytes.conv {P : Program} {E T U : TypeId} {w : World} {base : Nat} {v : Value} {xs : List UInt8} (h : Bytes E w base v xs) (hT : P.underlying T = some (.slice E)) (hE : P.underlying E = some (.int .u8)) (hU : P.underlying U = some .string) :
    (convert T U v).run P w = .ok (.string ⟨xs.toArray⟩) w := by
  rcases h.2 with ⟨rfl, hn⟩ | ⟨g, cap, cur, rfl, hbg, hg, hnc, hcm, hcs, htake⟩
  · have hx : xs = [] := List.eq_nil_of_length_eq_zero hn
    subst hx
    rw [run_convert_bytes_string w T U E none 0 0 hT hE hU]
    rfl
  · refine run_convert_bytes_back w T U E ⟨g, 0, none⟩ cap xs hT hE hU fun j hj => ?_
    exact World.ownsRow.cells h (g := g) rfl j _ (by simp [hj])

theorem Tryz.winfo5 : (Tryz.prog.info? 5).map (fun i => (i.zero, i.size, i.bytes)) = some (some (.int .u8 0), 1, 1) := by kernel_rfl
theorem appendNum_any (base : Nat) (v0 : Value) (xs : List UInt8) (m : Int) (w : World) (hown : Bytes 5 w base v0 xs) (hm0 : 0 ≤ m) (hm : m ≤ 18446744073709551615)
    (hlen : xs.length ≤ 140737488351000) (hb : base ≤ w.heap.size) :
    Calls Tryz.prog 94 #[v0, .int .u64 m] w fun e w' => ∃ v', e = .returned v' ∧ Bytes 5 w' base v' (xs ++ M.vnum m.toNat) ∧ Grew w v0 w' v' := by
  have hvl := M.vnum_len10 m.toNat (by omega)
  go_enter Tryz.func94, Tryz.ntmps94
  go_wp2
  go_loopw [0, 1] (fun v n wr => ∃ (k : Int) (ys : List UInt8), n = .int .u64 k ∧ 0 ≤ k ∧ k ≤ m ∧ M.vnum m.toNat = ys ++ M.vnum k.toNat ∧ Bytes 5 wr base v (xs ++ ys) ∧ Grew w v0 wr v) (fun _ n _ => (intOf n).toNat)
  case atStart => exact ⟨m, [], rfl, hm0, by omega, rfl, by simpa using hown, Grew.refl _ _⟩
  case round =>
    obtain ⟨k, ys, rfl, hk0, hk, hys, hown1, hg⟩ := hrel
    have hle : (xs ++ ys).length ≤ 140737488355000 := by
      have := congrArg List.length hys
      simp only [List.length_append] at this ⊢
      omega
    have hsz : base ≤ wr.heap.size := Nat.le_trans hb hg.g.size
    have Hys := Lib.hid hys; clear hys
    have Hle := Lib.hid hle; clear hle
    have Hsz := Lib.hid hsz; clear hsz
    have hkm : k ≤ 18446744073709551615 := by omega
    have hmk : k ≤ m := hk
    clear hm hk hlen hvl hb
    by_cases hlt : k < 128
    · go_wp2_with (at_builtin; refine wp_app_byte Tryz.winfo5 Tryz.underlying151 rfl _ _ rfl base _ _ rfl hown1 (M.by8 k.toNat) _ (B_of (by omega) (by omega)) rfl Hle.out Hsz.out ?_)
      · intro v' w1 hown' hg'
        go_wp2
        go_ret
        have e := Hys.out
        rw [M.vnum_lt (n := k.toNat) (by omega)] at e
        exact ⟨v', rfl, by rw [e]; simpa using hown', hg.trans hg'⟩
    · go_wp2_with (at_builtin; refine wp_app_byte Tryz.winfo5 Tryz.underlying151 rfl _ _ rfl base _ _ rfl hown1 (M.by8 (k.toNat % 128 + 128)) _ (B_of (by omega) (by omega)) rfl Hle.out Hsz.out ?_)
      · intro v' w1 hown' hg'
        go_wp2
        go_roundw
        case rel =>
          have e := Hys.out
          rw [M.vnum_ge (n := k.toNat) (by omega)] at e
          refine ⟨k / 128, ys ++ [M.by8 (k.toNat % 128 + 128)], by go_num, by omega, by omega, ?_, ?_, hg.trans hg'⟩
          · rw [e, List.append_assoc, show (k / 128).toNat = k.toNat / 128 by omega]; rfl
          · simpa using hown'
        case measure => simp [intOf]; omega

theorem num_any (m : Int) (w : World) (hm0 : 0 ≤ m) (hm : m ≤ 18446744073709551615) :
    Calls Tryz.prog 49 #[.int .u64 m] w fun e w' => e = .returned (.string ⟨(M.vnum m.toNat).toArray⟩) ∧ Below w.heap.size w w' := by
  go_enter Tryz.func49, Tryz.ntmps49
  go_wp2_with fail
  refine (appendNum_any w.heap.size _ [] m _ (Bytes.nil _ _) hm0 hm (by simp) (Nat.le_refl _)).mono ?_
  rintro e w' ⟨v', rfl, hb, hg⟩
  have hconv := hb.conv Tryz.underlying151 Tryz.underlying5 Tryz.underlying9
  go_wp2
  go_ret
  exact ⟨rfl, hg.below (Nat.le_refl _) (by simp [Value.ownBlock])⟩
theorem vnum300 : M.vnum 300 = [172, 2] := by rw [M.vnum_ge (by decide), M.vnum_lt (by decide)]; rfl
theorem num300 (w : World) : Calls Tryz.prog 49 #[.int .u64 300] w fun e w' => e = .returned (.string ⟨#[172, 2]⟩) ∧ Below w.heap.size w w' :=
  (num_any 300 w (by decide) (by decide)).mono fun e w' ⟨he, hb⟩ => ⟨by rw [he, show (300 : Int).toNat = 300 from rfl, vnum300], hb⟩
theorem zigm1 (w : World) : Calls Tryz.prog 50 #[.int .i64 (-1)] w fun e w' => e = .returned (.int .u64 1) ∧ w = w' := by
  go_enter Tryz.func50, Tryz.ntmps50
  go_wp2
  go_ret
  exact ⟨rfl, rfl⟩
theorem begins_any (w : World) : Calls Tryz.prog 15 #[] w fun e w' => e = .returned (.bool true) ∧ Below w.heap.size w w' := by
  go_enter Tryz.func15, Tryz.ntmps15
  go_wp2_with fail
  refine (num300 _).mono ?_
  rintro e w1 ⟨rfl, hb1⟩
  have Hb1 := Lib.hid hb1
  clear hb1
  go_wp2_with fail
  refine (zigm1 _).mono ?_
  rintro e w2 ⟨rfl, rfl⟩
  go_wp2
  go_ret
  exact ⟨rfl, Hb1.out⟩
end Go.Proofs.YtkhmdofeonlnpaaGreatDoor.Wn

/- TOP: MATHEMATICS OF TopStored; texts in a slice that only new blocks hold. -/
namespace Go.Proofs.YtkhmdofeonlnpaaGreatDoor
open Go.RowKit
set_option maxRecDepth 100000
set_option linter.unusedVariables false
set_option linter.unusedSimpArgs false

theorem openS_bad {size : Int} (h : ¬ (1 ≤ size ∧ size ≤ 262144)) : (openQ ⟨[], false, -1, -1⟩ size 1024).2 = 2 := by
  unfold openQ
  rw [if_neg (fun h => h right_nil)]
  have hm : (1 : Int) ≤ 1024 ∧ (1024 : Int) ≤ 1024 := by decide
  have ho : (openM ⟨[], false, -1, -1⟩ size).2.2 = 2 := by
    unfold openM
    rw [if_neg (fun h => h right_nil), if_pos h]
  rw [if_neg (fun h => h hm), if_pos (by rw [ho]; decide), ho]
/-- what crashed is there when it is opened -/
theorem oj_crash {size : Int} {j : Nat} {rest : List ByteArray} {q : Q} (h : OJ size j rest q) (ks : List Int) : Right q.l.d.files ∧ ∃ q2, openQ ⟨crashL ks q.l.d.files, false, -1, -1⟩ size 1024 = (q2, 0) ∧ OJ size j rest q2 := by
  obtain ⟨fs, fr, rs, hg, he, hf⟩ := h
  have hd : q.l.d = ⟨fs, false, -1, -1⟩ := by rw [hg.l]
  have hfs : q.l.d.files = fs := by rw [hd]
  have hag := hg.again (most := 1024) (by omega)
  rw [hd] at hag
  rw [hfs, kk_crash hg.kk]
  have hmap : (entM rs).map freeE = entM rs := by
    rw [← hg.es, List.map_map]
    apply List.map_congr_left
    intro e _
    rfl
  have hlen : (entM rs).length ≤ 1024 := by rw [← hg.es, List.length_map]; exact hg.ln
  refine ⟨hg.kk.R, _, hag, fs, fr, rs, ⟨rfl, hg.kk, hmap, hg.sz, by show (1 : Int) ≤ 1024 ∧ (1024 : Int) ≤ 1024; decide, hlen, hg.fr1, hg.bd⟩, ?_, ?_⟩
  · show (entM rs).map E.data = rest
    rw [← hg.es, List.map_map, ← he]
    apply List.map_congr_left
    intro e _
    rfl
  · intro e h
    obtain ⟨_, _, _, h2, _⟩ := entM_mem h
    exact h2
theorem oj_len {size : Int} {j : Nat} {rest : List ByteArray} {q : Q} (h : OJ size j rest q) : q.es.length = rest.length := by
  obtain ⟨fs, fr, rs, hg, he, hf⟩ := h
  rw [← he, List.length_map]
theorem oj_at {size : Int} {j : Nat} {rest : List ByteArray} {q : Q} (h : OJ size j rest q) {i : Nat} {e : E} (hi : q.es[i]? = some e) : rest[i]? = some e.data := by
  obtain ⟨fs, fr, rs, hg, he, hf⟩ := h
  rw [← he, List.getElem?_map, hi]
  rfl
/-- the slice v reads as these texts; its block lies from B on -/
def SLB (w : World) (B : Nat) (v : Value) (l : List ByteArray) : Prop := ∃ ad cap, v = .slice ad l.length cap ∧ l.length ≤ cap ∧ (l ≠ [] → ∃ g off, ad = some ⟨g, off, none⟩ ∧ B ≤ g ∧ g < w.heap.size ∧ ∀ i s, l[i]? = some s → w.cell? ⟨g, off + i, none⟩ = some (.string s))
theorem SRow.slb {w : World} {B : Nat} {v : Value} {ss : List ByteArray} (h : SRow w B v ss) : SLB w B v ss := by
  obtain ⟨ad, cap, hv, hS⟩ := h.strs
  refine ⟨ad, cap, hv, ?_, fun hne => ?_⟩
  · rcases h.2 with ⟨hv2, hn⟩ | ⟨g, cap2, cur, hv2, hbg, hg, hnc, hcm, hcs, htake⟩
    · rw [hn]; exact Nat.zero_le _
    · rw [hv] at hv2
      injection hv2 with _ _ h3
      subst h3
      omega
  · obtain ⟨g, off, e, hg, hi⟩ := hS hne
    have := h.lt g (by rw [hv, e]; rfl)
    exact ⟨g, off, e, this.1, hg, hi⟩
theorem SLB.kept {w w' : World} {B : Nat} {v : Value} {l : List ByteArray} (h : SLB w B v l) (hk : ∀ b, B ≤ b → b < w.heap.size → w'.heap[b]? = w.heap[b]?) (hs : w.heap.size ≤ w'.heap.size) : SLB w' B v l := by
  obtain ⟨ad, cap, hv, hc, h⟩ := h
  refine ⟨ad, cap, hv, hc, fun hne => ?_⟩
  obtain ⟨g, off, e, h1, h2, h3⟩ := h hne
  exact ⟨g, off, e, h1, by omega, fun i s hi => (World.cell?_of_block (hk g h1 h2)).trans (h3 i s hi)⟩
theorem SLB.under {w w' : World} {B : Nat} {v : Value} {l : List ByteArray} (h : SLB w B v l) (hb : Below w.heap.size w w') : SLB w' B v l := h.kept (fun b _ hb2 => hb.block b hb2) hb.size
/-- behind the first text: where the rest lies -/
theorem SLB.tail {w : World} {B : Nat} {ad : Option Addr} {n cap : Nat} {l : List ByteArray} (h : SLB w B (.slice ad n cap) l) {s : ByteArray} {t : List ByteArray} (hl : l = s :: t) :
    n = t.length + 1 ∧ n ≤ cap ∧ ∃ g off, ad = some ⟨g, off, none⟩ ∧ ∀ ad2 : Option Addr, (t ≠ [] → ad2 = some ⟨g, off + 1, none⟩) → SLB w B (.slice ad2 t.length (cap - 1)) t := by
  obtain ⟨ad', cap', hv, hc, hh⟩ := h
  injection hv with h1 h2 h3
  subst h1 h3
  obtain ⟨g, off, e, hB, hg, hi⟩ := hh (by rw [hl]; simp)
  rw [hl, List.length_cons] at h2 hc
  refine ⟨h2, by omega, g, off, e, fun ad2 h2' => ⟨ad2, cap - 1, rfl, by omega, fun hne => ⟨g, off + 1, h2' hne, hB, hg, fun i x hx => ?_⟩⟩⟩
  have := hi (i + 1) x (by rw [hl]; simpa using hx)
  rw [show off + 1 + i = off + (i + 1) by omega]
  exact this
/-- a queue's variable has no text among its cells; so no list with texts lies in it -/
theorem no_string {w : World} {g : Nat} {ad be : Option Addr} {n cap m cp : Nat} {down br : Bool} {fuse fault size fr nx most : Int} (h : w.heap[g]? = some (.cells (qcells (.slice ad n cap) down fuse fault size fr nx br (.slice be m cp) most) 30 (0, 0))) (k : Nat) (s : ByteArray) : w.cell? ⟨g, k, none⟩ ≠ some (.string s) := by
  intro e
  rw [cell_of_row w g k _ 30 (0, 0) h] at e
  match k, e with
  | 0, e => simp at e
  | 1, e => simp at e
  | 2, e => simp at e
  | 3, e => simp at e
  | 4, e => simp at e
  | 5, e => simp at e
  | 6, e => simp at e
  | 7, e => simp at e
  | 8, e => simp at e
  | 9, e => simp at e
  | k + 10, e => simp at e
theorem QIn.apart {w : World} {g : Nat} {ad be ad2 be2 : Option Addr} {n cap m cp n2 cap2 m2 cp2 : Nat} {q : Q} {down br : Bool} {fuse fault size fr nx most : Int} (hq : QIn w ad2 n2 cap2 be2 m2 cp2 q) (h : w.heap[g]? = some (.cells (qcells (.slice ad n cap) down fuse fault size fr nx br (.slice be m cp) most) 30 (0, 0))) :
    (q.l.d.files ≠ [] → (Value.slice ad2 n2 cap2).ownBlock ≠ some g) ∧ (q.es ≠ [] → (Value.slice be2 m2 cp2).ownBlock ≠ some g) := by
  refine ⟨fun hne e => ?_, fun hne e => ?_⟩
  · obtain ⟨g', off, he, hlt, hc⟩ := hq.l.d.i.2.2.2 hne
    rw [he] at e
    simp [Value.ownBlock] at e
    subst e
    obtain ⟨f, t, hf⟩ := List.exists_cons_of_ne_nil hne
    exact no_string h _ _ (hc 0 f (by rw [hf]; rfl)).q0
  · obtain ⟨g', off, he, hlt, hc⟩ := hq.e.2.2.2 hne
    rw [he] at e
    simp [Value.ownBlock] at e
    subst e
    obtain ⟨f, t, hf⟩ := List.exists_cons_of_ne_nil hne
    exact no_string h _ _ (hc 0 f (by rw [hf]; rfl)).q1
theorem QV.put2 {w W W' : World} {g : Nat} {q q2 : Q} {ad : Option Addr} {n cap : Nat} {be : Option Addr} {m cp : Nat} (h : QV w W g q ad n cap be m cp) (hb : Below W.heap.size W W') {ad2 : Option Addr} {n2 cap2 : Nat} {be2 : Option Addr} {m2 cp2 : Nat} (hq : QIn W' ad2 n2 cap2 be2 m2 cp2 q2)
    {G : World} (hG : G = put10 W' g (.slice ad2 n2 cap2) (.bool q2.l.d.down) (.int .i64 q2.l.d.fuse) (.int .i64 q2.l.d.fault) (.int .i64 q2.l.size) (.int .u64 q2.l.fr) (.int .u64 q2.l.nx) (.bool q2.l.broken) (.slice be2 m2 cp2) (.int .i64 q2.most)) : QV w G g q2 ad2 n2 cap2 be2 m2 cp2 := by
  have hl := (Array.getElem?_eq_some_iff.1 h.h).1
  have hx := (hb.block _ hl).trans h.h
  obtain ⟨h1, h2⟩ := hq.apart hx
  subst hG
  have hbG := below_put10 (h.b.trans (hb.mono h.b.size)) h.g (.slice ad2 n2 cap2) (.bool q2.l.d.down) (.int .i64 q2.l.d.fuse) (.int .i64 q2.l.d.fault) (.int .i64 q2.l.size) (.int .u64 q2.l.fr) (.int .u64 q2.l.nx) (.bool q2.l.broken) (.slice be2 m2 cp2) (.int .i64 q2.most)
  have hs : W'.heap.size ≤ (put10 W' g (.slice ad2 n2 cap2) (.bool q2.l.d.down) (.int .i64 q2.l.d.fuse) (.int .i64 q2.l.d.fault) (.int .i64 q2.l.size) (.int .u64 q2.l.fr) (.int .u64 q2.l.nx) (.bool q2.l.broken) (.slice be2 m2 cp2) (.int .i64 q2.most)).heap.size := by rw [put10_size]; exact Nat.le_refl _
  refine ⟨cell_put10 hx _ _ _ _ _ _ _ _ _ _, ⟨⟨⟨(hq.l.d.i.same2 (fun hne b e => put10_other (by rintro rfl; exact h1 hne e) _ _ _ _ _ _ _ _ _ _)).mono hs, hq.l.d.fit, hq.l.d.u0, hq.l.d.u1, hq.l.d.f0, hq.l.d.f1⟩, hq.l.s0, hq.l.s1, hq.l.f0, hq.l.f1, hq.l.n0, hq.l.n1⟩, ?_, hq.fit, hq.m⟩, hbG, h.g⟩
  by_cases he : q2.es = []
  · refine ⟨hq.e.1, hq.e.2.1, hq.e.2.2.1, ?_⟩
    rw [he]; exact Els.nil _ _ _
  · exact (hq.e.same (fun b e => put10_other (by rintro rfl; exact h2 he e) _ _ _ _ _ _ _ _ _ _)).mono hs
end Go.Proofs.YtkhmdofeonlnpaaGreatDoor
