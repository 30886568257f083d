/-
  What the library's functions return that the program's formats call; a builder that holds some bytes.
-/
import Derived.Test.YthaedmldlenhgaaGreatDoorPures
import Derived.Test.YthaedmldlenhgaaGreatDoorRowB
import Derived.Test.YthaedmldlenhgaaGreatDoorShelf
import Derived.Lib.FrozenHead
import Derived.Lib.Repeat
import Derived.Lib.UnsafeStr
import Derived.Shelf.Strings.BuilderK
namespace Go.Proofs.YthaedmldlenhgaaGreatDoor.Cell
open Go.ChangeShapes Go.WideShapes Go.ChangeAt Go.RowKit Go.PlainAid Go.Shelf
open Go.Proofs.YthaedmldlenhgaaGreatDoor.Dec
open Go.Proofs.YthaedmldlenhgaaGreatDoor.DecPure Go.Proofs.YthaedmldlenhgaaGreatDoor.ReadPure Go.Proofs.YthaedmldlenhgaaGreatDoor.CellPure Go.Proofs.YthaedmldlenhgaaGreatDoor.SubPure Go.Proofs.YthaedmldlenhgaaGreatDoor.RecPure Go.Proofs.YthaedmldlenhgaaGreatDoor.Strs
set_option linter.unusedVariables false

theorem bt_head {s : ByteArray} {c : UInt8} : s.data.toList[0]? = some c ↔ 0 < s.size ∧ bt s 0 = (c.toNat : Int) := by
  constructor
  · intro h
    have hk : 0 < s.size := by
      have := (List.getElem?_eq_some_iff.1 h).1
      rwa [len_data] at this
    refine ⟨hk, ?_⟩
    unfold bt
    rw [dif_pos hk]
    have := (List.getElem?_eq_some_iff.1 h).2
    rw [Array.getElem_toList] at this
    show (s.data[0].toNat : Int) = _
    rw [this]
  · rintro ⟨hk, h⟩
    unfold bt at h
    rw [dif_pos hk] at h
    rw [List.getElem?_eq_getElem (by rw [len_data]; exact hk), Array.getElem_toList]
    congr 1
    apply UInt8.toNat_inj.1
    have h' : (s.data[0].toNat : Int) = (c.toNat : Int) := h
    omega
theorem pre_head (l : List UInt8) (c : UInt8) : Lib.hasPrefix l [c] = true ↔ l[0]? = some c := by
  unfold Lib.hasPrefix
  cases l with
  | nil => simp
  | cons x r =>
    simp only [List.isPrefixOf, Bool.and_true, List.getElem?_cons_zero, Option.some.injEq, beq_iff_eq]
    exact eq_comm
theorem pre_yes {s : ByteArray} {c : UInt8} (h : 0 < s.size ∧ bt s 0 = (c.toNat : Int)) : Lib.hasPrefix s.data.toList [c] = true ∧ (⟨(Lib.trimPrefix s.data.toList [c]).toArray⟩ : ByteArray) = s.extract 1 s.size := by
  have h1 := (pre_head s.data.toList c).2 (bt_head.2 h)
  refine ⟨h1, ?_⟩
  unfold Lib.trimPrefix
  rw [if_pos h1]
  exact mk_ext (by rw [List.take_of_length_le (by rw [List.length_drop, len_data]; exact Nat.le_refl _)]; rfl)
theorem pre_no {s : ByteArray} {c : UInt8} (h : ¬ (0 < s.size ∧ bt s 0 = (c.toNat : Int))) : Lib.hasPrefix s.data.toList [c] = false ∧ (⟨(Lib.trimPrefix s.data.toList [c]).toArray⟩ : ByteArray) = s := by
  have h1 : Lib.hasPrefix s.data.toList [c] = false := by
    rw [Bool.eq_false_iff]
    intro q
    exact h (bt_head.1 ((pre_head _ _).1 q))
  refine ⟨h1, ?_⟩
  unfold Lib.trimPrefix
  rw [h1, if_neg (by simp)]

theorem cutp_yes {s : ByteArray} {c : UInt8} (h : 0 < s.size ∧ bt s 0 = (c.toNat : Int)) (w : World) : Calls Tryz.prog 89 #[.string s, .string ⟨#[c]⟩] w fun e w' => e = .returned (.tuple #[.string (s.extract 1 s.size), .bool true]) ∧ w = w' := by
  obtain ⟨h1, h2⟩ := pre_yes h
  refine (Tryz.strings_CutPrefix s ⟨#[c]⟩ w).mono ?_
  rintro e w' ⟨rfl, rfl⟩
  refine ⟨?_, rfl⟩
  show Ending.returned (.tuple #[.string ⟨(Lib.trimPrefix s.data.toList [c]).toArray⟩, .bool (Lib.hasPrefix s.data.toList [c])]) = _
  rw [h1, h2]

theorem cutp_no {s : ByteArray} {c : UInt8} (h : ¬ (0 < s.size ∧ bt s 0 = (c.toNat : Int))) (w : World) : Calls Tryz.prog 89 #[.string s, .string ⟨#[c]⟩] w fun e w' => e = .returned (.tuple #[.string s, .bool false]) ∧ w = w' := by
  obtain ⟨h1, h2⟩ := pre_no h
  refine (Tryz.strings_CutPrefix s ⟨#[c]⟩ w).mono ?_
  rintro e w' ⟨rfl, rfl⟩
  refine ⟨?_, rfl⟩
  show Ending.returned (.tuple #[.string ⟨(Lib.trimPrefix s.data.toList [c]).toArray⟩, .bool (Lib.hasPrefix s.data.toList [c])]) = _
  rw [h1, h2]

theorem rep_list : ∀ n : Nat, Lib.repeatL [32] n = List.replicate n 32
  | 0 => rfl
  | n + 1 => by rw [Lib.repeatL, rep_list n, List.replicate_succ]; rfl
theorem rep_bl (n : Nat) (hn : n ≤ 1048576) (w : World) : Calls Tryz.prog 62 #[.string ⟨#[32]⟩, .int .i64 n] w fun e w' => e = .returned (.string (blS n)) ∧ Below w.heap.size w w' := by
  refine (Tryz.strings_Repeat ⟨#[32]⟩ n w (by omega) (by show 1 * n ≤ _; omega)).mono ?_
  rintro e w' ⟨rfl, hb⟩
  refine ⟨?_, hb⟩
  show Ending.returned (.string ⟨(Lib.repeatL [32] n).toArray⟩) = _
  rw [rep_list]
  unfold blS
  simp

theorem write_k (B b : Nat) (bs : List Value) (s : ByteArray) (w : World) (h : Lib.IsBuilderF 57 5 B b bs w) (hlen : bs.length + s.size ≤ 140737488355328) (hBw : B ≤ w.heap.size) :
    Calls Tryz.prog 25 #[.pointer (some ⟨b, 0, none⟩), .string s] w fun e w' => e = .returned (.tuple #[.int .i64 s.size, .nilIface]) ∧ (Lib.BuilderAtF 57 5 B b (.pointer (some ⟨b, 0, none⟩)) (bs ++ Lib.strCells s) w' ∧ Below B w w' ∧ Lib.OthersKept 5 (some b) w w') :=
  Any.Builder_WriteString_k { Tryz.lays105 with } Tryz.Builder_Extra_105 B b bs s w h hlen hBw

/-- A builder behind a pointer to block b, all of it at B or above, that holds the bytes x. -/
def Bld (w : World) (B b : Nat) (x : ByteArray) : Prop := Lib.IsBuilderF 57 5 B b (Lib.byteCells x.data.toList) w
theorem Bld.new (w : World) : Bld (w.alloc (.cells #[.pointer none, .slice none 0 0] 57)) w.heap.size w.heap.size ⟨#[]⟩ :=
  .inl ⟨Nat.le_refl _, .slice none 0 0, heap_alloc_new w _, ⟨rfl, .inl ⟨rfl, rfl⟩⟩, by simp [Value.ownBlock]⟩
theorem Bld.lt {w : World} {B b : Nat} {x : ByteArray} (h : Bld w B b x) : B ≤ b ∧ b < w.heap.size := by
  rcases h with h | h
  · exact ⟨h.1, h.lt⟩
  · exact ⟨h.1, h.lt⟩
theorem bldAt_below {T e : TypeId} {B b : Nat} {p : Value} {bs : List Value} {w w' : World} (h : Lib.BuilderAtF T e B b p bs w) (hb : Below w.heap.size w w') : Lib.BuilderAtF T e B b p bs w' := by
  have hlt := h.lt
  obtain ⟨h1, v, h2, h3, h4⟩ := h
  refine ⟨h1, v, (hb.block b hlt).trans h2, ⟨h3.1, ?_⟩, h4⟩
  rcases h3.2 with hn | ⟨g, cap, cur, fz, hv, hbg, hg, rest⟩
  · exact .inl hn
  · exact .inr ⟨g, cap, cur, fz, hv, hbg, (hb.block g (Array.getElem?_eq_some_iff.1 hg).1).trans hg, rest⟩
theorem Bld.below {w w' : World} {B b : Nat} {x : ByteArray} (h : Bld w B b x) (hb : Below w.heap.size w w') : Bld w' B b x :=
  h.elim (fun y => .inl (bldAt_below y hb)) (fun y => .inr (bldAt_below y hb))

theorem bld_write {B b : Nat} {x : ByteArray} (s : ByteArray) {w : World} (h : Bld w B b x) (hx : x.size + s.size ≤ 1048576) (hB : B ≤ w.heap.size) :
    Calls Tryz.prog 25 #[.pointer (some ⟨b, 0, none⟩), .string s] w fun e w' => e = .returned (.tuple #[.int .i64 s.size, .nilIface]) ∧ Bld w' B b (x ++ s) ∧ Below B w w' ∧ Lib.OthersKept 5 (some b) w w' := by
  refine (write_k B b _ s w h (by rw [Lib.byteCells_length, len_data]; omega) hB).mono ?_
  rintro e w' ⟨rfl, h2, h3, h4⟩
  refine ⟨rfl, .inr ?_, h3, h4⟩
  rw [Lib.strCells_eq, ← Lib.byteCells_append] at h2
  rw [ByteArray.data_append, Array.toList_append]
  exact h2

theorem bld_len {B b : Nat} {x : ByteArray} {w : World} (h : Bld w B b x) :
    Calls Tryz.prog 28 #[.pointer (some ⟨b, 0, none⟩)] w fun e w' => e = .returned (.int .i64 x.size) ∧ w = w' := by
  refine (Tryz.Builder_Len_f B b _ w h).mono ?_
  rintro e w' ⟨rfl, rfl⟩
  rw [Lib.byteCells_length, len_data]
  exact ⟨rfl, rfl⟩

theorem bld_string {B b : Nat} {x : ByteArray} {w : World} (h : Bld w B b x) (hB : B ≤ w.heap.size) :
    Calls Tryz.prog 29 #[.pointer (some ⟨b, 0, none⟩)] w fun e w' => e = .returned (.string x) ∧ Bld w' B b x ∧ Below B w w' := by
  refine (Tryz.Builder_String_any_f B b x.data.toList w h hB).mono ?_
  rintro e w' ⟨rfl, h2, h3⟩
  exact ⟨by simp, h2, h3⟩

end Go.Proofs.YthaedmldlenhgaaGreatDoor.Cell
