/-
  The program's writer of a pattern's text: what put and putEscaped do to it.
-/
import Derived.Test.YtdgbbgkdoekfkaaTxSpec
import Derived.Test.YtdgbbgkdoekfkaaShelf
import Derived.Deep.AppendLies
import Derived.Laws.OwnMore
import Derived.Laws.BytesArg
import Derived.Lib.IndexAny
namespace Go.Proofs.Ytdgbbgkdoekfkaa.Re
open Go.ChangeShapes Go.WideShapes Go.ChangeAt Go.RowKit Go.PlainAid
open Go.Proofs.Ytdgbbgkdoekfkaa.RePure
set_option linter.unusedVariables false

/-- No more than one byte too many. -/
def clip (L : List Int) : List Int := L.take 201
theorem clip_le (L : List Int) : (clip L).length ≤ 201 := by unfold clip; rw [List.length_take]; omega
theorem clip_room {L : List Int} (h : (clip L).length ≤ 200) (b : Int) : clip (L ++ [b]) = clip L ++ [b] := by
  unfold clip at h ⊢
  rw [List.length_take] at h
  have hl : L.length ≤ 200 := by omega
  rw [List.take_of_length_le (by simp; omega), List.take_of_length_le (by omega)]
theorem clip_full {L : List Int} (h : ¬ (clip L).length ≤ 200) (b : Int) : clip (L ++ [b]) = clip L := by
  unfold clip at h ⊢
  rw [List.length_take] at h
  rw [List.take_append_of_le_length (by omega)]

/-- The writer's three cells. -/
def wf (v : Value) (nest deep : Int) : Nat → Value
  | 0 => v
  | 1 => .int .i64 nest
  | _ => .int .i64 deep
/-- The blocks of S are as they were. -/
structure Keep (S : Nat → Prop) (w w' : World) : Prop where
  os : w'.os = w.os
  tape : w'.tape = w.tape
  output : w'.output = w.output
  size : w.heap.size ≤ w'.heap.size
  block : ∀ x, S x → w'.heap[x]? = w.heap[x]?
theorem Keep.refl (S : Nat → Prop) (w : World) : Keep S w w := ⟨rfl, rfl, rfl, Nat.le_refl _, fun _ _ => rfl⟩
theorem Keep.trans {S : Nat → Prop} {a b c : World} (h : Keep S a b) (k : Keep S b c) : Keep S a c :=
  ⟨k.os.trans h.os, k.tape.trans h.tape, k.output.trans h.output, Nat.le_trans h.size k.size, fun x hx => (k.block x hx).trans (h.block x hx)⟩
theorem Keep.mono {S T : Nat → Prop} {a b : World} (h : Keep S a b) (hs : ∀ x, T x → S x) : Keep T a b := ⟨h.os, h.tape, h.output, h.size, fun x hx => h.block x (hs x hx)⟩
theorem Keep.alloc {S : Nat → Prop} (w : World) (o : Obj) (h : ∀ x, S x → x < w.heap.size) : Keep S w (w.alloc o) := ⟨rfl, rfl, rfl, by simp, fun x hx => Below.heap_alloc w o x (h x hx)⟩
theorem Keep.drewN {S : Nat → Prop} (w : World) (n : Nat) : Keep S w (w.drewN n) := ⟨rfl, rfl, rfl, Nat.le_refl _, fun _ _ => rfl⟩
theorem Keep.setCell {S : Nat → Prop} (w : World) (a : Addr) (u : Value) (h : ¬ S a.block) : Keep S w (w.setCell a u) := ⟨rfl, rfl, rfl, by simp [World.setCell], fun x hx => Below.heap_setCell w a u x (fun e => h (e ▸ hx))⟩
theorem Keep.cell {S : Nat → Prop} {w w' : World} (h : Keep S w w') {p : Addr} (hp : S p.block) : w'.cell? p = w.cell? p := World.cell?_of_block (h.block p.block hp)
theorem Keep.frozen {S : Nat → Prop} {w w' : World} (h : Keep S w w') {p : Addr} (hp : S p.block) : w'.frozen? p = w.frozen? p := World.frozen?_of_block (h.block p.block hp)
theorem Keep.below {S : Nat → Prop} {B : Nat} {w w' : World} (h : Keep S w w') (hs : ∀ x, x < B → S x) : Below B w w' := ⟨h.os, h.tape, h.output, h.size, fun x hx => h.block x (hs x hx)⟩
/-- The writer in block g: what it has been given so far is L; neither it nor its bytes lie in S. -/
def WC (S : Nat → Prop) (w : World) (g : Nat) (L : List Int) (nest deep : Int) : Prop :=
  (∀ x, S x → x < w.heap.size) ∧ ¬ S g ∧ ∃ v, w.rowIs g 84 3 (wf v nest deep) ∧ w.ownsRow (g + 1) 5 1 v (clip L).length ((clip L).map (Value.int .u8)) ∧ ∀ x, v.ownBlock = some x → ¬ S x

theorem own_form {w : World} {base n : Nat} {t : TypeId} {v : Value} {xs : List Value} (h : w.ownsRow base t 1 v n xs) : ∃ ao cap, v = .slice ao n cap := by
  rcases h.2 with ⟨h, h0⟩ | ⟨g, cap, _, h, _⟩
  · exact ⟨none, 0, by rw [h, h0]⟩
  · exact ⟨_, _, h⟩
theorem infoU8 : (Try.prog.info? 5).map (fun i => (i.zero, i.size, i.bytes)) = some (some (.int .u8 0), 1, 1) := by kernel_rfl

set_option maxRecDepth 100000 in
set_option maxHeartbeats 1000000 in
theorem put_ok (S : Nat → Prop) (g : Nat) (L : List Int) (nest deep b : Int) (w : World) (h : WC S w g L nest deep) :
    Calls Try.prog 113 #[.pointer (some ⟨g, 0, none⟩), .int .u8 b] w fun e w' => e = .returned (.tuple #[]) ∧ WC S w' g (L ++ [b]) nest deep ∧ Keep S w w' := by
  obtain ⟨hS, hg, v, hrow, hown, hob⟩ := h
  have HOB := Lib.hid hob; clear hob
  have HSS := Lib.hid hS; clear hS
  obtain ⟨i0, hi, hz0, hz1, hz2⟩ := info_parts infoU8
  obtain ⟨ao, cap, rfl⟩ := own_form hown
  have c0 : w.cell? ⟨g, 0, none⟩ = some (.slice ao (clip L).length cap) := hrow.cell (i := 0) (by omega)
  have hcl := clip_le L
  have hgw := hrow.lt
  by_cases hr : (clip L).length ≤ 200
  · have hcr := clip_room hr b
    have z0 := hrow.frozen 0
    have HCR := Lib.hid hcr; clear hcr
    go_enter Try.func113, Try.ntmps113
    go_wp2_with (at_builtin; go_loud (refine wpList_append_lies _ rfl _ _ _ rfl (g + 1) 5 i0 (.int .u8 0) 1 1 Try.underlying82 hi hz0 hz1 hz2 rfl (by omega) _ (clip L).length _ rfl (hown.alloc _) ⟨w.heap.size, 0, none⟩ 1 1 [.int .u8 b] rfl rfl ?c1 ?c2 (by omega) ?c3 ?c4 ?c5 _ rfl ?_))
    case c1 =>
      intro j u hj
      match j, hj with
      | 0, hj => simp at hj; subst hj; simp [Addr.add]
    case c2 => intro u hu; simp at hu; subst hu; rfl
    case c3 => unfold maxLen; omega
    case c4 => omega
    case c5 => simp; omega
    · intro h cap2 w1 hown1 hgrow hat hlt
      have hB1 : Keep S w w1 := by
        refine ⟨hgrow.os, hgrow.tape, hgrow.output, Nat.le_trans (by simp) hgrow.size, fun x hx => ?_⟩
        have hxl := HSS.out x hx
        exact (hgrow.block x (by simp; omega) (fun e => HOB.out x e.symm hx)).trans (Below.heap_alloc _ _ _ hxl)
      have hnS : ∀ x, (Value.slice (some ⟨h, 0, none⟩) ((clip L).length + 1) cap2).ownBlock = some x → ¬ S x := by
        intro x hx
        have hxe : h = x := by simpa [Value.ownBlock] using hx
        subst hxe
        rcases hat with q | q
        · exact HOB.out _ q
        · intro hSx
          have := HSS.out _ hSx
          first
            | omega
            | (simp at q; omega)
      have HNS := Lib.hid hnS; clear hnS
      have hrow1 : w1.rowIs g 84 3 (wf (.slice ao (clip L).length cap) nest deep) := by
        refine (hrow.alloc _).of_block (hgrow.block g (by simp; omega) (fun e => ?_))
        have := (hown.lt g e.symm).1
        omega
      have d0 : w1.cell? ⟨g, 0, none⟩ = some (.slice ao (clip L).length cap) := hrow1.cell (i := 0) (by omega)
      have y0 := hrow1.frozen 0
      have hrow2 := (hrow1.set 0 (.slice (some ⟨h, 0, none⟩) ((clip L).length + 1) cap2)).congr (g := wf (.slice (some ⟨h, 0, none⟩) ((clip L).length + 1) cap2) nest deep) (fun j hj => by
        match j, hj with
        | 0, _ => rfl
        | 1, _ => rfl
        | 2, _ => rfl)
      have hown2 := ownsRow_setCell_below hown1 (a := ⟨g, 0, none⟩) (Nat.lt_succ_self g) (.slice (some ⟨h, 0, none⟩) ((clip L).length + 1) cap2)
      have HR := Lib.hid hrow2; clear hrow2
      have HO := Lib.hid hown2; clear hown2
      have HB := Lib.hid (hB1.trans (Keep.setCell w1 ⟨g, 0, none⟩ (.slice (some ⟨h, 0, none⟩) ((clip L).length + 1) cap2) hg))
      clear hown1 hgrow hat hlt hown hrow hrow1 hB1 c0 z0
      go_wp2_with fail
      go_end0
      refine ⟨rfl, ⟨fun x hx => Nat.lt_of_lt_of_le (HSS.out x hx) HB.out.size, hg, _, HR.out, ?_, HNS.out⟩, HB.out⟩
      have := HO.out
      rw [HCR.out]
      simpa using this
  · have hcf := clip_full hr b
    have HCF := Lib.hid hcf; clear hcf
    have HOW : Hid (w.ownsRow (g + 1) 5 1 (.slice ao (clip L).length cap) (clip L).length ((clip L).map (Value.int .u8))) := hown
    have HRO := Lib.hid hrow
    clear hown hrow
    go_enter Try.func113, Try.ntmps113
    go_wp2_with fail
    go_end0
    exact ⟨rfl, ⟨HSS.out, hg, _, HRO.out, (by rw [HCF.out]; exact HOW.out), HOB.out⟩, Keep.refl _ _⟩

theorem hasB_lib (s : ByteArray) (c : Int) (h0 : 0 ≤ c) (h1 : c ≤ 255) : (0 ≤ Lib.indexByte s.data.toList c.toNat.toUInt8) ↔ hasB s c = true := by
  have h := Lib.contains_iff_indexByte s.data.toList c.toNat.toUInt8
  rw [show (0 ≤ Lib.indexByte s.data.toList c.toNat.toUInt8) ↔ (s.data.toList.contains c.toNat.toUInt8 = true) from by rw [h]; simp]
  unfold hasB bs
  rw [decide_eq_true_iff, List.contains_iff_mem, List.mem_map]
  constructor
  · intro hm
    refine ⟨_, hm, ?_⟩
    have : c.toNat < 256 := by omega
    simp [Nat.toUInt8]
    omega
  · rintro ⟨u, hu, e⟩
    have : c.toNat.toUInt8 = u := by
      have : c.toNat = u.toNat := by omega
      rw [this]
      simp
    rw [this]; exact hu

set_option maxRecDepth 100000 in
set_option maxHeartbeats 1000000 in
theorem putEsc_ok (S : Nat → Prop) (g : Nat) (L : List Int) (nest deep b : Int) (s : ByteArray) (w : World) (h : WC S w g L nest deep) (b0 : 0 ≤ b) (b1 : b ≤ 255) :
    Calls Try.prog 118 #[.pointer (some ⟨g, 0, none⟩), .int .u8 b, .string s] w fun e w' => e = .returned (.tuple #[]) ∧ WC S w' g (L ++ escL s b) nest deep ∧ Keep S w w' := by
  have H := Lib.hid h; clear h
  have hx := hasB_lib s b b0 b1
  cases hh : hasB s b
  · have he : escL s b = [b] := by rw [escL, hh]; rfl
    have HE := Lib.hid he; clear he
    have hneg : ¬ 0 ≤ Lib.indexByte s.data.toList b.toNat.toUInt8 := fun h => by rw [hx, hh] at h; cases h
    obtain ⟨q, hq⟩ : ∃ q, q = Lib.indexByte s.data.toList b.toNat.toUInt8 := ⟨_, rfl⟩
    rw [← hq] at hneg
    have HQ := Lib.hid hq; clear hq hx hh
    go_enter Try.func118, Try.ntmps118
    go_wp2_with (go_at_call 85; refine (Try.strings_IndexByte s b _).mono ?_; rw [← HQ.out]; rintro e w' ⟨rfl, rfl⟩)
    refine (put_ok S g L nest deep b _ H.out).mono ?_
    rintro e w1 ⟨rfl, h1, hB1⟩
    have H1 := Lib.hid h1; clear h1
    go_wp2_with fail
    go_end0
    exact ⟨rfl, by rw [HE.out]; exact H1.out, hB1⟩
  · have he : escL s b = [92, b] := by rw [escL, hh]; rfl
    have HE := Lib.hid he; clear he
    have hpos : 0 ≤ Lib.indexByte s.data.toList b.toNat.toUInt8 := by rw [hx, hh]
    obtain ⟨q, hq⟩ : ∃ q, q = Lib.indexByte s.data.toList b.toNat.toUInt8 := ⟨_, rfl⟩
    rw [← hq] at hpos
    have HQ := Lib.hid hq; clear hq hx hh
    go_enter Try.func118, Try.ntmps118
    go_wp2_with (go_at_call 85; refine (Try.strings_IndexByte s b _).mono ?_; rw [← HQ.out]; rintro e w' ⟨rfl, rfl⟩)
    refine (put_ok S g L nest deep 92 _ H.out).mono ?_
    rintro e w1 ⟨rfl, h1, hB1⟩
    have H1 := Lib.hid h1; clear h1
    go_wp2_with fail
    refine (put_ok S g _ nest deep b _ H1.out).mono ?_
    rintro e w2 ⟨rfl, h2, hB2⟩
    have H2 := Lib.hid h2; clear h2
    go_wp2_with fail
    go_end0
    exact ⟨rfl, by rw [HE.out]; have := H2.out; simpa using this, hB1.trans hB2⟩

end Go.Proofs.Ytdgbbgkdoekfkaa.Re
