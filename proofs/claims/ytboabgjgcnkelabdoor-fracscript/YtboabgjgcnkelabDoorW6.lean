import Derived.Test.YtboabgjgcnkelabDoorW5
namespace Go.Proofs.YtboabgjgcnkelabDoor
open Go.RowKit Go.Shelf

end Go.Proofs.YtboabgjgcnkelabDoor
