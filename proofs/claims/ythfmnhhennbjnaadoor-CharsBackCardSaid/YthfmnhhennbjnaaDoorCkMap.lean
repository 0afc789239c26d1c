/- Escape: the map of escapes. -/
import Derived.Test.YthfmnhhennbjnaaDoorCkEnc
import Derived.Carry
import Derived.WideMake
namespace Go.Proofs.YthfmnhhennbjnaaDoor
open Go.RowKit Go.Shelf
namespace Ck

theorem putObj_alloc (w : World) (o o' : Obj) : (w.alloc o).putObj w.heap.size o' = w.alloc o' := by
  simp only [World.putObj, World.alloc]
  congr 1
  apply Array.ext_getElem?
  intro i
  by_cases h : i = w.heap.size
  · subst h; simp
  · rw [Array.getElem?_setIfInBounds_ne (Ne.symm h), Array.getElem?_push, Array.getElem?_push, if_neg h, if_neg h]

/-- A new key goes into a map that the call has just made. -/
theorem run_insert {P : Program} (w : World) (t kt et : TypeId) (clock : Nat) (es : Array MapEntry) (key val : Value) (d : TypeDesc) (hm : P.underlying t = some (.map kt et)) (hk : P.underlying kt = some d) (hkey : MapKept.IsKey d key) (hf : Instr.findNow d key es.toList 0 = some none) :
    (Instr.mapUpdate t (.map (some w.heap.size)) key val).run P (w.alloc (.map es clock)) = .ok () (w.alloc (.map (es.push { key := key, val := val, born := clock }) (clock + 1))) := by
  have hb : (w.alloc (.map es clock)).heap[w.heap.size]? = some (.map es clock) := World.alloc_heap_new w _
  have hc : (Instr.checkKey false 10000 kt key).run P (w.alloc (.map es clock)) = .ok () (w.alloc (.map es clock)) := MapKept.run_checkKey (k := key) hk hkey false 9999
  have := putObj_alloc w (.map es clock) (.map (es.push { key := key, val := val, born := clock }) (clock + 1))
  simp [Instr.mapUpdate, run_underlying hm, MapKept.run_getObj_map hb, hc, MapKept.run_findKey hk hf, MapKept.run_setObj_map _ hb, Result.andThen]
  exact this

/-- A look-up that tells whether the key is there. -/
theorem run_look {P : Program} (w : World) (t kt et : TypeId) (b clock : Nat) (es : Array MapEntry) (key z : Value) (d : TypeDesc) (hm : P.underlying t = some (.map kt et)) (hk : P.underlying kt = some d) (hkey : MapKept.IsKey d key) (r : Option (Nat × Value)) (hf : Instr.findNow d key es.toList 0 = some r) (hb : w.heap[b]? = some (.map es clock)) (hz : (zeroValue et).run P w = .ok z w) :
    (Instr.lookup t (.map (some b)) key true).run P w = .ok (.tuple #[(match r with | some x => x.2 | none => z), .bool r.isSome]) w := by
  have hc : (Instr.checkKey es.isEmpty 10000 kt key).run P w = .ok () w := MapKept.run_checkKey (k := key) hk hkey _ 9999
  cases r with
  | none => simp [Instr.lookup, run_underlying hm, MapKept.run_getObj_map hb, hc, MapKept.run_findKey hk hf, Result.andThen, hz]
  | some x => simp [Instr.lookup, run_underlying hm, MapKept.run_getObj_map hb, hc, MapKept.run_findKey hk hf, Result.andThen]

def escEs : Array MapEntry := #[⟨.int .i32 60, .string ⟨#[38, 108, 116, 59]⟩, 0⟩, ⟨.int .i32 62, .string ⟨#[38, 103, 116, 59]⟩, 1⟩, ⟨.int .i32 38, .string ⟨#[38, 97, 109, 112, 59]⟩, 2⟩, ⟨.int .i32 13, .string ⟨#[38, 35, 49, 51, 59]⟩, 3⟩, ⟨.int .i32 34, .string ⟨#[38, 113, 117, 111, 116, 59]⟩, 4⟩, ⟨.int .i32 9, .string ⟨#[38, 35, 57, 59]⟩, 5⟩, ⟨.int .i32 10, .string ⟨#[38, 35, 49, 48, 59]⟩, 6⟩]
def escEs4 : Array MapEntry := #[⟨.int .i32 60, .string ⟨#[38, 108, 116, 59]⟩, 0⟩, ⟨.int .i32 62, .string ⟨#[38, 103, 116, 59]⟩, 1⟩, ⟨.int .i32 38, .string ⟨#[38, 97, 109, 112, 59]⟩, 2⟩, ⟨.int .i32 13, .string ⟨#[38, 35, 49, 51, 59]⟩, 3⟩]
/-- The map of escapes. -/
def escObj (a : Bool) : Obj := if a then .map escEs 7 else .map escEs4 4

set_option maxRecDepth 100000 in
set_option maxHeartbeats 2000000 in
theorem written_any (a : Bool) (w : World) :
    Calls Tryd.prog 36 #[.bool a] w fun e w' => e = .returned (.map (some w.heap.size)) ∧ w' = w.alloc (escObj a) := by
  have hmm := @run_makeMap Tryd.prog
  cases a
  · have n0 : (Instr.mapUpdate 55 (.map (some w.heap.size)) (.int .i32 60) (.string ⟨#[38, 108, 116, 59]⟩)).run Tryd.prog (w.alloc (.map #[] 0)) = .ok () (w.alloc (.map #[⟨.int .i32 60, .string ⟨#[38, 108, 116, 59]⟩, 0⟩] 1)) := run_insert w _ 21 9 0 _ _ _ (.int .i32) Tryd.underlying55 Tryd.underlying21 (by simp [MapKept.IsKey]) rfl
    have n1 : (Instr.mapUpdate 55 (.map (some w.heap.size)) (.int .i32 62) (.string ⟨#[38, 103, 116, 59]⟩)).run Tryd.prog (w.alloc (.map #[⟨.int .i32 60, .string ⟨#[38, 108, 116, 59]⟩, 0⟩] 1)) = .ok () (w.alloc (.map #[⟨.int .i32 60, .string ⟨#[38, 108, 116, 59]⟩, 0⟩, ⟨.int .i32 62, .string ⟨#[38, 103, 116, 59]⟩, 1⟩] 2)) := run_insert w _ 21 9 1 _ _ _ (.int .i32) Tryd.underlying55 Tryd.underlying21 (by simp [MapKept.IsKey]) rfl
    have n2 : (Instr.mapUpdate 55 (.map (some w.heap.size)) (.int .i32 38) (.string ⟨#[38, 97, 109, 112, 59]⟩)).run Tryd.prog (w.alloc (.map #[⟨.int .i32 60, .string ⟨#[38, 108, 116, 59]⟩, 0⟩, ⟨.int .i32 62, .string ⟨#[38, 103, 116, 59]⟩, 1⟩] 2)) = .ok () (w.alloc (.map #[⟨.int .i32 60, .string ⟨#[38, 108, 116, 59]⟩, 0⟩, ⟨.int .i32 62, .string ⟨#[38, 103, 116, 59]⟩, 1⟩, ⟨.int .i32 38, .string ⟨#[38, 97, 109, 112, 59]⟩, 2⟩] 3)) := run_insert w _ 21 9 2 _ _ _ (.int .i32) Tryd.underlying55 Tryd.underlying21 (by simp [MapKept.IsKey]) rfl
    have n3 : (Instr.mapUpdate 55 (.map (some w.heap.size)) (.int .i32 13) (.string ⟨#[38, 35, 49, 51, 59]⟩)).run Tryd.prog (w.alloc (.map #[⟨.int .i32 60, .string ⟨#[38, 108, 116, 59]⟩, 0⟩, ⟨.int .i32 62, .string ⟨#[38, 103, 116, 59]⟩, 1⟩, ⟨.int .i32 38, .string ⟨#[38, 97, 109, 112, 59]⟩, 2⟩] 3)) = .ok () (w.alloc (.map #[⟨.int .i32 60, .string ⟨#[38, 108, 116, 59]⟩, 0⟩, ⟨.int .i32 62, .string ⟨#[38, 103, 116, 59]⟩, 1⟩, ⟨.int .i32 38, .string ⟨#[38, 97, 109, 112, 59]⟩, 2⟩, ⟨.int .i32 13, .string ⟨#[38, 35, 49, 51, 59]⟩, 3⟩] 4)) := run_insert w _ 21 9 3 _ _ _ (.int .i32) Tryd.underlying55 Tryd.underlying21 (by simp [MapKept.IsKey]) rfl
    go_enter Tryd.func36, Tryd.ntmps36
    go_wp2
    go_ret
    exact ⟨rfl, rfl⟩
  · have n0 : (Instr.mapUpdate 55 (.map (some w.heap.size)) (.int .i32 60) (.string ⟨#[38, 108, 116, 59]⟩)).run Tryd.prog (w.alloc (.map #[] 0)) = .ok () (w.alloc (.map #[⟨.int .i32 60, .string ⟨#[38, 108, 116, 59]⟩, 0⟩] 1)) := run_insert w _ 21 9 0 _ _ _ (.int .i32) Tryd.underlying55 Tryd.underlying21 (by simp [MapKept.IsKey]) rfl
    have n1 : (Instr.mapUpdate 55 (.map (some w.heap.size)) (.int .i32 62) (.string ⟨#[38, 103, 116, 59]⟩)).run Tryd.prog (w.alloc (.map #[⟨.int .i32 60, .string ⟨#[38, 108, 116, 59]⟩, 0⟩] 1)) = .ok () (w.alloc (.map #[⟨.int .i32 60, .string ⟨#[38, 108, 116, 59]⟩, 0⟩, ⟨.int .i32 62, .string ⟨#[38, 103, 116, 59]⟩, 1⟩] 2)) := run_insert w _ 21 9 1 _ _ _ (.int .i32) Tryd.underlying55 Tryd.underlying21 (by simp [MapKept.IsKey]) rfl
    have n2 : (Instr.mapUpdate 55 (.map (some w.heap.size)) (.int .i32 38) (.string ⟨#[38, 97, 109, 112, 59]⟩)).run Tryd.prog (w.alloc (.map #[⟨.int .i32 60, .string ⟨#[38, 108, 116, 59]⟩, 0⟩, ⟨.int .i32 62, .string ⟨#[38, 103, 116, 59]⟩, 1⟩] 2)) = .ok () (w.alloc (.map #[⟨.int .i32 60, .string ⟨#[38, 108, 116, 59]⟩, 0⟩, ⟨.int .i32 62, .string ⟨#[38, 103, 116, 59]⟩, 1⟩, ⟨.int .i32 38, .string ⟨#[38, 97, 109, 112, 59]⟩, 2⟩] 3)) := run_insert w _ 21 9 2 _ _ _ (.int .i32) Tryd.underlying55 Tryd.underlying21 (by simp [MapKept.IsKey]) rfl
    have n3 : (Instr.mapUpdate 55 (.map (some w.heap.size)) (.int .i32 13) (.string ⟨#[38, 35, 49, 51, 59]⟩)).run Tryd.prog (w.alloc (.map #[⟨.int .i32 60, .string ⟨#[38, 108, 116, 59]⟩, 0⟩, ⟨.int .i32 62, .string ⟨#[38, 103, 116, 59]⟩, 1⟩, ⟨.int .i32 38, .string ⟨#[38, 97, 109, 112, 59]⟩, 2⟩] 3)) = .ok () (w.alloc (.map #[⟨.int .i32 60, .string ⟨#[38, 108, 116, 59]⟩, 0⟩, ⟨.int .i32 62, .string ⟨#[38, 103, 116, 59]⟩, 1⟩, ⟨.int .i32 38, .string ⟨#[38, 97, 109, 112, 59]⟩, 2⟩, ⟨.int .i32 13, .string ⟨#[38, 35, 49, 51, 59]⟩, 3⟩] 4)) := run_insert w _ 21 9 3 _ _ _ (.int .i32) Tryd.underlying55 Tryd.underlying21 (by simp [MapKept.IsKey]) rfl
    have n4 : (Instr.mapUpdate 55 (.map (some w.heap.size)) (.int .i32 34) (.string ⟨#[38, 113, 117, 111, 116, 59]⟩)).run Tryd.prog (w.alloc (.map #[⟨.int .i32 60, .string ⟨#[38, 108, 116, 59]⟩, 0⟩, ⟨.int .i32 62, .string ⟨#[38, 103, 116, 59]⟩, 1⟩, ⟨.int .i32 38, .string ⟨#[38, 97, 109, 112, 59]⟩, 2⟩, ⟨.int .i32 13, .string ⟨#[38, 35, 49, 51, 59]⟩, 3⟩] 4)) = .ok () (w.alloc (.map #[⟨.int .i32 60, .string ⟨#[38, 108, 116, 59]⟩, 0⟩, ⟨.int .i32 62, .string ⟨#[38, 103, 116, 59]⟩, 1⟩, ⟨.int .i32 38, .string ⟨#[38, 97, 109, 112, 59]⟩, 2⟩, ⟨.int .i32 13, .string ⟨#[38, 35, 49, 51, 59]⟩, 3⟩, ⟨.int .i32 34, .string ⟨#[38, 113, 117, 111, 116, 59]⟩, 4⟩] 5)) := run_insert w _ 21 9 4 _ _ _ (.int .i32) Tryd.underlying55 Tryd.underlying21 (by simp [MapKept.IsKey]) rfl
    have n5 : (Instr.mapUpdate 55 (.map (some w.heap.size)) (.int .i32 9) (.string ⟨#[38, 35, 57, 59]⟩)).run Tryd.prog (w.alloc (.map #[⟨.int .i32 60, .string ⟨#[38, 108, 116, 59]⟩, 0⟩, ⟨.int .i32 62, .string ⟨#[38, 103, 116, 59]⟩, 1⟩, ⟨.int .i32 38, .string ⟨#[38, 97, 109, 112, 59]⟩, 2⟩, ⟨.int .i32 13, .string ⟨#[38, 35, 49, 51, 59]⟩, 3⟩, ⟨.int .i32 34, .string ⟨#[38, 113, 117, 111, 116, 59]⟩, 4⟩] 5)) = .ok () (w.alloc (.map #[⟨.int .i32 60, .string ⟨#[38, 108, 116, 59]⟩, 0⟩, ⟨.int .i32 62, .string ⟨#[38, 103, 116, 59]⟩, 1⟩, ⟨.int .i32 38, .string ⟨#[38, 97, 109, 112, 59]⟩, 2⟩, ⟨.int .i32 13, .string ⟨#[38, 35, 49, 51, 59]⟩, 3⟩, ⟨.int .i32 34, .string ⟨#[38, 113, 117, 111, 116, 59]⟩, 4⟩, ⟨.int .i32 9, .string ⟨#[38, 35, 57, 59]⟩, 5⟩] 6)) := run_insert w _ 21 9 5 _ _ _ (.int .i32) Tryd.underlying55 Tryd.underlying21 (by simp [MapKept.IsKey]) rfl
    have n6 : (Instr.mapUpdate 55 (.map (some w.heap.size)) (.int .i32 10) (.string ⟨#[38, 35, 49, 48, 59]⟩)).run Tryd.prog (w.alloc (.map #[⟨.int .i32 60, .string ⟨#[38, 108, 116, 59]⟩, 0⟩, ⟨.int .i32 62, .string ⟨#[38, 103, 116, 59]⟩, 1⟩, ⟨.int .i32 38, .string ⟨#[38, 97, 109, 112, 59]⟩, 2⟩, ⟨.int .i32 13, .string ⟨#[38, 35, 49, 51, 59]⟩, 3⟩, ⟨.int .i32 34, .string ⟨#[38, 113, 117, 111, 116, 59]⟩, 4⟩, ⟨.int .i32 9, .string ⟨#[38, 35, 57, 59]⟩, 5⟩] 6)) = .ok () (w.alloc (.map #[⟨.int .i32 60, .string ⟨#[38, 108, 116, 59]⟩, 0⟩, ⟨.int .i32 62, .string ⟨#[38, 103, 116, 59]⟩, 1⟩, ⟨.int .i32 38, .string ⟨#[38, 97, 109, 112, 59]⟩, 2⟩, ⟨.int .i32 13, .string ⟨#[38, 35, 49, 51, 59]⟩, 3⟩, ⟨.int .i32 34, .string ⟨#[38, 113, 117, 111, 116, 59]⟩, 4⟩, ⟨.int .i32 9, .string ⟨#[38, 35, 57, 59]⟩, 5⟩, ⟨.int .i32 10, .string ⟨#[38, 35, 49, 48, 59]⟩, 6⟩] 7)) := run_insert w _ 21 9 6 _ _ _ (.int .i32) Tryd.underlying55 Tryd.underlying21 (by simp [MapKept.IsKey]) rfl
    go_enter Tryd.func36, Tryd.ntmps36
    go_wp2
    go_ret
    exact ⟨rfl, rfl⟩

end Ck
end Go.Proofs.YthfmnhhennbjnaaDoor
