/-
  A scope in which the run jumps to more than one label: what holds at every jump, label by label, and a measure that every pass from a label lowers.
-/
import Derived.Test.YtlfmiikpbdhemaaGreatDoorLexImp
import Derived.ScopeJumps
import Derived.WalkMore
import Derived.Lib.AppendStr
namespace Go.Proofs.YtlfmiikpbdhemaaGreatDoor.Lex
open Go.ChangeShapes Go.WideShapes Go.ChangeAt Go.RowKit Go.PlainAid Go.Maps
open Go.Proofs.YtlfmiikpbdhemaaGreatDoor.Dec
open Go.Proofs.YtlfmiikpbdhemaaGreatDoor.DecPure Go.Proofs.YtlfmiikpbdhemaaGreatDoor.ReadPure Go.Proofs.YtlfmiikpbdhemaaGreatDoor.LexPure
set_option linter.unusedVariables false

/-- As Q; by a goto to label l: J l. -/
def jumpsQ (J : Nat → Act → World → Prop) (Q : Exit → Act → World → Prop) : Exit → Act → World → Prop
  | .goto l, a, w => J l a w
  | e, a, w => Q e a w

theorem wp_scope_many {P : Program} {a : Act} {w : World} {Q : Exit → Act → World → Prop} {c : Code} (rest : Nat → Code) (J : Nat → Act → World → Prop) (μ : Nat → Act → World → Nat) (hf : ∀ l a w, J l a w → findLabel c l = some (rest l))
    (first : c.wp P (jumpsQ J Q) a w)
    (pass : ∀ l a w, J l a w → (rest l).wp P (jumpsQ (fun l' a' w' => J l' a' w' ∧ μ l' a' w' < μ l a w) Q) a w) : (Code.scope c).wp P Q a w := by
  intro b k cs
  have key : ∀ n l a w, μ l a w = n → J l a w → ∃ e a' w', Q e a' w' ∧ Arrives P (lone (b.at a (.code (rest l) :: .inScope c :: k)) cs w) b k cs e a' w' := by
    intro n
    induction n using Nat.strongRecOn with
    | _ n ih =>
      intro l a w hn hJ
      obtain ⟨e, a₁, w₁, hq, harr⟩ := pass l a w hJ b (.inScope c :: k) cs
      cases e with
      | normal => exact ⟨.normal, a₁, w₁, hq, Steps.trans harr (.one step_inScope)⟩
      | exit id => exact ⟨.exit id, a₁, w₁, hq, fun k' hk => harr k' (by simp [exitTo, hk])⟩
      | goto l' =>
        obtain ⟨hJ', hlt⟩ := hq
        obtain ⟨e₂, a₂, w₂, hq₂, harr₂⟩ := ih _ (by omega) l' a₁ w₁ rfl hJ'
        exact ⟨e₂, a₂, w₂, hq₂, .of_steps (harr _ (by simp [gotoIn, hf l' a₁ w₁ hJ'])) harr₂⟩
      | ret => exact ⟨_, a₁, w₁, hq, harr⟩
      | panic ch => exact ⟨_, a₁, w₁, hq, harr⟩
      | outgrown => exact ⟨_, a₁, w₁, hq, harr⟩
  obtain ⟨e, a₁, w₁, hq, harr⟩ := first b (.inScope c :: k) cs
  cases e with
  | normal => exact ⟨.normal, a₁, w₁, hq, .head step_scope (Steps.trans harr (.one step_inScope))⟩
  | exit id => exact ⟨.exit id, a₁, w₁, hq, fun k' hk => .head step_scope (harr k' (by simp [exitTo, hk]))⟩
  | goto l' =>
    obtain ⟨e₂, a₂, w₂, hq₂, harr₂⟩ := key _ l' a₁ w₁ rfl hq
    exact ⟨e₂, a₂, w₂, hq₂, .of_steps (.head step_scope (harr _ (by simp [gotoIn, hf l' a₁ w₁ hq]))) harr₂⟩
  | ret => exact ⟨_, a₁, w₁, hq, .of_steps (.one step_scope) harr⟩
  | panic ch => exact ⟨_, a₁, w₁, hq, .of_steps (.one step_scope) harr⟩
  | outgrown => exact ⟨_, a₁, w₁, hq, .of_steps (.one step_scope) harr⟩

/-- @@ -/
theorem wp_scope_two {P : Program} {a : Act} {w : World} {Q : Exit → Act → World → Prop} {c rest0 rest1 : Code} (hf0 : findLabel c 0 = some (Code.skip.seq rest0)) (hf1 : findLabel c 1 = some (Code.skip.seq rest1)) (J : Nat → Act → World → Prop) (μ : Act → World → Nat) (hJ : ∀ l a w, J l a w → l = 0 ∨ l = 1)
    (pass0 : ∀ a w, J 0 a w → rest0.wp P (jumpsQ (fun l a' w' => J l a' w' ∧ μ a' w' < μ a w) Q) a w)
    (pass1 : ∀ a w, J 1 a w → rest1.wp P (jumpsQ (fun l a' w' => J l a' w' ∧ μ a' w' < μ a w) Q) a w)
    (first : (∀ a w, J 0 a w → rest0.wp P (jumpsQ J Q) a w) → c.wp P (jumpsQ J Q) a w) : (Code.scope c).wp P Q a w := by
  refine wp_scope_many (fun l => if l = 0 then Code.skip.seq rest0 else Code.skip.seq rest1) J (fun _ => μ) (fun l a w h => ?_) (first fun a w h => ?_) (fun l a w h => ?_)
  · rcases hJ l a w h with rfl | rfl
    · exact hf0
    · exact hf1
  · refine wp_mono (pass0 a w h) fun e a' w' hq => ?_
    cases e with
    | goto l => exact hq.1
    | normal => exact hq
    | exit _ => exact hq
    | ret => exact hq
    | panic _ => exact hq
    | outgrown => exact hq
  · rcases hJ l a w h with rfl | rfl
    · exact wp_seq (wp_skip (pass0 a w h))
    · exact wp_seq (wp_skip (pass1 a w h))

set_option maxRecDepth 20000 in
theorem buf_text {ops : Array Oper} {rest : List Oper} {o : Oper} {a : Act} {Q : Exit → Act → World → Prop} (B : Nat) (w : World) (v : Value) (L M : List Int) (hM : ∀ x ∈ M, 0 ≤ x ∧ x ≤ 255)
    (hgd : o.guard = none) (sl x : Operand) (ho : o.op = .call { callee := .builtin .append, args := #[sl, x], argTypes := #[22, 9] }) (hs : a.eval sl = v) (hx : a.eval x = .string (strOfNums M))
    (h : Buf B w v L) (hL : L.length + M.length ≤ 100000000) (hB : B ≤ w.heap.size)
    (hK : ∀ v1 w1, Buf B w1 v1 (L ++ M) → w.grownBy w1 v.ownBlock → wpList Tryz.prog ops Q rest (a.put o.dst v1) w1) :
    wpList Tryz.prog ops Q (o :: rest) a w := by
  obtain ⟨i0, hi, hz0, hz1, hz2⟩ := info_parts infoB
  refine Go.Lib.wpList_append_own_string w hgd sl x 22 9 ho B 5 i0 Tryz.underlying22 Tryz.underlying9 hi hz0 hz1 hz2 v L.length _ hs h (strOfNums M) hx (by rw [strOfNums_size]; unfold maxLen; omega) (by rw [strOfNums_size]; omega) hB ?_
  intro v1 w1 h1 h2 _
  refine hK v1 w1 ?_ h2
  unfold Buf
  rw [List.length_append, List.map_append]
  have e : Go.Lib.strCells (strOfNums M) = M.map (Value.int .u8) := by
    unfold Go.Lib.strCells
    rw [strOfNums_data, List.map_map]
    refine List.map_congr_left fun y hy => ?_
    obtain ⟨y0, y1⟩ := hM y hy
    simp only [Function.comp]
    congr 1
    simp
    omega
  rw [strOfNums_size, e] at h1
  exact h1

def pz (s : ByteArray) (a n : Nat) : List Int := (List.range n).map fun i => bt s (a + i)
theorem pz_step (s : ByteArray) (a n : Nat) : pz s a (n + 1) = pz s a n ++ [bt s (a + n)] := by simp [pz, List.range_succ]
theorem bt_nums {L : List Int} {i : Nat} (hi : i < L.length) (h0 : 0 ≤ L[i]) (h1 : L[i] ≤ 255) : bt (strOfNums L) i = L[i] := by
  unfold bt
  rw [dif_pos (by rw [strOfNums_size]; exact hi)]
  have hd : i < (strOfNums L).data.size := by show i < (strOfNums L).size; rw [strOfNums_size]; exact hi
  have e : (strOfNums L).data[i]'hd = UInt8.ofNat (L[i]).toNat := by simp [strOfNums]
  show (((strOfNums L).data[i]'hd).toNat : Int) = _
  rw [e]
  simp
  omega
theorem str_pz {s : ByteArray} {a n : Nat} (h : a + n ≤ s.size) : strOfNums (pz s a n) = s.extract a (a + n) := by
  have hl : (pz s a n).length = n := by simp [pz]
  refine ba_ext (by rw [strOfNums_size, hl, size_ext s a _ h]; omega) fun i hi => ?_
  rw [strOfNums_size, hl] at hi
  have hg : (pz s a n)[i]'(by rw [hl]; exact hi) = bt s (a + i) := by simp [pz]
  rw [bt_nums (by rw [hl]; exact hi) (by rw [hg]; exact bt_nonneg _ _) (by rw [hg]; exact bt_le _ _), hg, bt_ext s a (a + n) i h (by omega)]

def ScanIs (r : Option (ByteArray × Nat)) (e : Ending) : Prop :=
  match r with
  | none => e = .returned (.tuple #[.string ⟨#[]⟩, .int .i64 0, .bool false])
  | some q => e = .returned (.tuple #[.string q.1, .int .i64 q.2, .bool true])
theorem scan_yes {t u : ByteArray} {x : Int} {n : Nat} (h1 : t = u) (h2 : x = n) : ScanIs (some (u, n)) (.returned (.tuple #[.string t, .int .i64 x, .bool true])) := by subst h1 h2; rfl
def strScan (r : Option (List Int × Nat)) : Option (ByteArray × Nat) := match r with | none => none | some q => some (strOfNums q.1, q.2)
def reScan (s : ByteArray) (a : Nat) (r : Option Nat) : Option (ByteArray × Nat) := match r with | none => none | some e => some (s.extract (a + 1) e, e + 1)
/-- The frame of the scan, as far as it matters. -/
def SF (s : ByteArray) (j : Nat) (qt : Int) (v : Value) (x : Act) : Prop := ∃ u2 u3 u4 u5 u6 u9 u10 u11 u12 u13 u14 u15 u16 u17 u18 u19 u20 u21 u22 u23 u24 u25 u26 u27 u28 u29 u30 u31 u32 u33 u34 u35 u36 u37 u38 u39 u40 u41 u42 u43 u44 u45 u46 u47 u48 u49 u50 u51 u52 u53 u54 u55 u56 u57 u58 u59 u60 u61 u62 u63 u64 u65 u66 : Value, x = { tmps := #[.string s, .int .i64 j, u2, u3, u4, u5, u6, .int .u8 qt, v, u9, u10, u11, u12, u13, u14, u15, u16, u17, u18, u19, u20, u21, u22, u23, u24, u25, u26, u27, u28, u29, u30, u31, u32, u33, u34, u35, u36, u37, u38, u39, u40, u41, u42, u43, u44, u45, u46, u47, u48, u49, u50, u51, u52, u53, u54, u55, u56, u57, u58, u59, u60, u61, u62, u63, u64, u65, u66], defers := [] }
def sfAt (x : Act) : Nat := match x.tmps.getD 1 undef with | .int _ n => n.toNat | _ => 0

theorem esc_range {b c : Int} (h : escB b = some c) : 0 ≤ c ∧ c ≤ 255 := by
  unfold escB at h
  split at h
  · cases h; omega
  · split at h
    · cases h; omega
    · split at h
      · cases h; omega
      · split at h
        · cases h; omega
        · cases h
theorem Buf.below {B C : Nat} {w w' : World} {v : Value} {L : List Int} (h : Buf B w v L) (hb : Below C w w') (hC : w.heap.size ≤ C) : Buf B w' v L := by
  have hl := h.lt
  rcases h with ⟨q1, q2 | ⟨x, cap, cur, rfl, q3, q4, q5⟩⟩
  · exact ⟨q1, Or.inl q2⟩
  · have hx : x < w.heap.size := (hl x rfl).2
    exact ⟨q1, Or.inr ⟨x, cap, cur, rfl, q3, by rw [hb.block x (by omega)]; exact q4, q5⟩⟩

end Go.Proofs.YtlfmiikpbdhemaaGreatDoor.Lex
